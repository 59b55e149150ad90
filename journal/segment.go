package journal

import (
	"bytes"
	"slices"
	"strconv"
	"strings"
)

const (
	namePrefix = "seg-"
	nameDigits = 8
	headMark   = "JL1\n"
	headSize   = len(headMark) + numberSize + checkSize
)

// segmentName is no segment's name where the base has more than eight digits.
func segmentName(base int64) string {
	digits := strconv.FormatInt(base, 10)
	return namePrefix + strings.Repeat("0", max(0, nameDigits-len(digits))) + digits
}

func isSegmentName(name string) bool {
	digits, found := strings.CutPrefix(name, namePrefix)
	return found && len(digits) == nameDigits && strings.Trim(digits, "0123456789") == ""
}

// segmentNames are those of names that are a segment's: each one once, in the order of the bases, in a list of its own.
func segmentNames(names []string) []string {
	var own []string
	for _, name := range names {
		if isSegmentName(name) {
			own = append(own, name)
		}
	}
	slices.Sort(own)
	return slices.Compact(own)
}

func listed(sorted []string, name string) bool {
	_, found := slices.BinarySearch(sorted, name)
	return found
}

func segmentHead(base int64) []byte {
	b := append(make([]byte, 0, headSize), headMark...)
	b = appendNumber(b, uint64(base), numberSize)
	return appendNumber(b, uint64(Sum(b)), checkSize)
}

func hasHead(b []byte, base int64) bool {
	return bytes.HasPrefix(b, segmentHead(base))
}
