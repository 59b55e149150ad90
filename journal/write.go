package journal

import (
	"strings"

	"journal/api"
)

// request is a batch that is to be appended; the goroutine that writes sends one answer.
type request struct {
	stream string
	expect int64
	data   []string
	answer chan<- api.Done
}

// writer is what the goroutine that writes needs; it alone touches it, and the files.
type writer struct {
	store   *Store
	files   api.Files
	segment string // the name of the last segment; empty, if there is none
	size    int    // how many bytes that one has
	failed  bool
}

// work answers the requests, one behind the other, till there will be no more.
func (w *writer) work() {
	defer close(w.store.ended)
	for r := range w.store.requests {
		version, err := w.write(r)
		r.answer <- api.Done{Version: version, Err: err}
	}
}

// batchError tells what is wrong with a batch whatever the log is; the order is the document's.
func batchError(stream string, data []string) error {
	if !isStream(stream) {
		return api.ErrStream
	}
	if len(data) == 0 || len(data) > api.MaxBatch {
		return api.ErrBatch
	}
	for _, d := range data {
		if !isData(d) {
			return api.ErrData
		}
	}
	return nil
}

func (w *writer) write(r request) (int64, error) {
	if w.failed {
		return 0, api.ErrFailed
	}
	have := w.store.Version(r.stream)
	if r.expect != api.Any && r.expect != have {
		return 0, &api.VersionError{Stream: strings.Clone(r.stream), Want: r.expect, Have: have}
	}
	events := batch(r, api.Place{Version: have + 1, Position: int64(len(w.store.eventsNow()))})
	if err := w.save(events); err != nil {
		// It is not known what of the batch stands in the files: nothing may be put behind it.
		w.failed = true
		return 0, err
	}
	w.store.add(events)
	return have + int64(len(events)), nil
}

// batch is the events of a request, the first one at a place. They are kept: they share no memory with what was handed in.
func batch(r request, at api.Place) []api.Event {
	stream := strings.Clone(r.stream)
	var events []api.Event
	for _, data := range r.data {
		events = append(events, api.Event{Place: at, Stream: stream, Data: strings.Clone(data)})
		at.Version++
		at.Position++
	}
	return events
}

// save puts the records of a batch behind the log, and makes them safe.
func (w *writer) save(events []api.Event) error {
	b := w.front(events[0].Position)
	for _, e := range events {
		b = appendRecord(b, e)
	}
	if err := appendFile(w.files, w.segment, b); err != nil {
		return err
	}
	w.size += len(b)
	return syncFile(w.files, w.segment)
}

// front chooses the segment of the next batch, and is what must stand there ahead of it. A head goes into the files with its batch: no segment is made without one.
func (w *writer) front(base int64) []byte {
	if w.segment != "" && w.size < api.MaxSegment {
		return nil
	}
	w.segment, w.size = segmentName(base), 0
	return segmentHead(base)
}
