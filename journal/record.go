// Package journal: an event store on a log of segments: see DOC.md.
package journal

import "journal/api"

const (
	lengthSize = 4                                           // the payload's length
	checkSize  = 4                                           // a check
	frontSize  = lengthSize + checkSize                      // what stands ahead of a payload
	numberSize = 8                                           // a version or a position
	placeSize  = 2 * numberSize                              // both of them
	minPayload = 1 + 1 + placeSize                           // a name of one byte, no data
	maxPayload = 1 + api.MaxStream + placeSize + api.MaxData // the longest name and data
	polynomial = 0x82F63B78                                  // the polynomial of CRC-32C, its lowest power in the highest bit
)

// Sum is the check of some bytes (P3).
func Sum(b []byte) uint32 {
	sum := ^uint32(0)
	for _, c := range b {
		sum ^= uint32(c)
		for range 8 {
			if sum&1 != 0 {
				sum = sum>>1 ^ polynomial
			} else {
				sum >>= 1
			}
		}
	}
	return ^sum
}

// Frame writes a record (P4).
func Frame(e api.Event) ([]byte, error) {
	if err := eventError(e); err != nil {
		return nil, err
	}
	return appendRecord(nil, e), nil
}

// Parse reads the record at the beginning of some bytes (P5).
func Parse(b []byte) (api.Event, int, api.Verdict) {
	if len(b) < frontSize {
		return api.Event{}, 0, api.Short
	}
	// The length is judged before it becomes an int, which may have fewer bits.
	length := number(b[:lengthSize])
	if length < minPayload || length > maxPayload {
		return api.Event{}, 0, api.Bad
	}
	end := frontSize + int(length)
	if len(b) < end {
		return api.Event{}, 0, api.Short
	}
	p := b[frontSize:end]
	if number(b[lengthSize:frontSize]) != uint64(Sum(p)) {
		return api.Event{}, 0, api.Bad
	}
	e, ok := parsePayload(p)
	if !ok {
		return api.Event{}, 0, api.Bad
	}
	return e, end, api.Whole
}

// eventError tells why an event has no record; the order is the document's.
func eventError(e api.Event) error {
	if !isStream(e.Stream) {
		return api.ErrStream
	}
	if !isData(e.Data) {
		return api.ErrData
	}
	if e.Version < 1 || e.Position < 0 {
		return api.ErrBatch
	}
	return nil
}

func isStream(name string) bool { return len(name) > 0 && len(name) <= api.MaxStream }

func isData(data string) bool { return len(data) <= api.MaxData }

// appendRecord puts the record of an event behind b; eventError has nothing against the event.
func appendRecord(b []byte, e api.Event) []byte {
	p := payload(e)
	b = appendNumber(b, uint64(len(p)), lengthSize)
	b = appendNumber(b, uint64(Sum(p)), checkSize)
	return append(b, p...)
}

func payload(e api.Event) []byte {
	p := make([]byte, 0, maxPayload)
	p = append(p, byte(len(e.Stream)))
	p = append(p, e.Stream...)
	p = appendNumber(p, uint64(e.Version), numberSize)
	p = appendNumber(p, uint64(e.Position), numberSize)
	return append(p, e.Data...)
}

// parsePayload asks eventError too, so that just what Frame would write is read.
func parsePayload(p []byte) (api.Event, bool) {
	place := 1 + int(p[0])
	data := place + placeSize
	if data > len(p) {
		return api.Event{}, false
	}
	e := api.Event{
		Place: api.Place{
			Version:  int64(number(p[place : place+numberSize])),
			Position: int64(number(p[place+numberSize : data])),
		},
		Stream: string(p[1:place]),
		Data:   string(p[data:]),
	}
	if eventError(e) != nil {
		return api.Event{}, false
	}
	return e, true
}
