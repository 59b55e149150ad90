package journal

import "journal/api"

// log is the events in their order, and the data of each stream: of the versions 1, 2 and on.
type log struct {
	events  []api.Event
	streams map[string][]string
}

func newLog() *log { return &log{streams: map[string][]string{}} }

// next is the position of the next event.
func (l *log) next() int64 { return int64(len(l.events)) }

func (l *log) version(stream string) int64 { return int64(len(l.streams[stream])) }

func (l *log) add(e api.Event) {
	l.events = append(l.events, e)
	l.streams[e.Stream] = append(l.streams[e.Stream], e.Data)
}

// take adds the records at the beginning of b, as long as each is the next one, and tells how many bytes these have.
func (l *log) take(b []byte) int {
	taken := 0
	for {
		e, n, verdict := Parse(b[taken:])
		if verdict != api.Whole || e.Position != l.next() || e.Version != l.version(e.Stream)+1 {
			return taken
		}
		l.add(e)
		taken += n
	}
}
