package journal

import "journal/api"

// found is the log of some files, and the segments that belong to it.
type found struct {
	log      *log
	segments []string // their names, in order
	size     int      // of the last segment
	good     int      // the good length of the last segment
}

// last is the name of the last segment; empty, if there is none.
func (l *found) last() string {
	if len(l.segments) == 0 {
		return ""
	}
	return l.segments[len(l.segments)-1]
}

// findLog reads the log of some files of which the segments are named; it changes nothing.
func findLog(f api.Files, names []string) (*found, error) {
	l := &found{log: newLog()}
	for l.good == l.size {
		base := l.log.next()
		name := segmentName(base)
		// A segment without a record is followed by none: the next position is its own base.
		if listed(l.segments, name) || !listed(names, name) {
			break
		}
		b, err := readFile(f, name)
		if err != nil {
			return nil, err
		}
		if !hasHead(b, base) {
			break
		}
		l.segments = append(l.segments, name)
		l.size = len(b)
		l.good = headSize + l.log.take(b[headSize:])
	}
	return l, nil
}

// tidy has the files hold the log and no other segment.
func tidy(f api.Files, names []string, l *found) error {
	// They go ahead of the cut: behind it the log could go on in one of them (P8).
	for _, name := range names {
		if listed(l.segments, name) {
			continue
		}
		if err := removeFile(f, name); err != nil {
			return err
		}
	}
	last := l.last()
	if last == "" {
		return nil
	}
	// Only the last one can be longer than is good: the log does not go on behind such a one.
	if l.size != l.good {
		if err := cutFile(f, last, l.good); err != nil {
			return err
		}
	}
	return syncFile(f, last)
}
