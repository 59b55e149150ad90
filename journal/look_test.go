package journal_test

import (
	"fmt"
	"slices"
	"sync"
	"sync/atomic"
	"testing"
	"time"

	"journal/api"
	"journal/journal"
)

// most is the greatest number that was told.
type most struct{ atomic.Int64 }

func (m *most) raise(n int64) {
	for {
		before := m.Load()
		if n <= before || m.CompareAndSwap(before, n) {
			return
		}
	}
}

// sights is what several looked at, and what each look had to tell at least.
type sights struct {
	lock     sync.Mutex
	logs     map[int][]api.Event         // by how many events there are
	reads    map[string]map[int][]string // by the stream, and how many events it has
	asked    map[string][]int64          // what Version told of each stream
	told     atomic.Int64                // how many events have been told to be appended
	seen     most                        // how many events were seen
	versions map[string]*most            // the greatest version of each stream that was told
}

func newSights(streams []string) *sights {
	w := &sights{logs: map[int][]api.Event{}, reads: map[string]map[int][]string{}, asked: map[string][]int64{}, versions: map[string]*most{}}
	for _, stream := range streams {
		w.reads[stream], w.versions[stream] = map[int][]string{}, &most{}
	}
	return w
}

// hear: an Append has answered.
func (w *sights) hear(a deed) {
	w.versions[a.stream].raise(a.Version)
	w.told.Add(int64(len(a.data)))
}

// all looks at the log: it has what was told and what was seen ahead of the look.
func (w *sights) all(t *testing.T, s *journal.Store) {
	least := max(w.told.Load(), w.seen.Load())
	got := all(s)
	w.seen.raise(int64(len(got)))
	if int64(len(got)) < least {
		t.Errorf("P15: All tells %d events, there had been %d", len(got), least)
	}
	for _, e := range got {
		w.versions[e.Stream].raise(e.Version)
	}
	w.lock.Lock()
	defer w.lock.Unlock()
	if before, ok := w.logs[len(got)]; ok && !slices.Equal(got, before) {
		t.Errorf("P15: All tells %q, and told %q", text(got), text(before))
	}
	w.logs[len(got)] = got
}

// stream looks at a stream, by Version and by Read.
func (w *sights) stream(t *testing.T, s *journal.Store, stream string) {
	least := w.versions[stream].Load()
	got := s.Version(stream)
	w.versions[stream].raise(got)
	if got < least {
		t.Errorf("P15: the version of %q is %d, it had been %d", stream, got, least)
	}
	least = w.versions[stream].Load()
	read := pairs(t, s.Read(stream, 0), 0)
	w.versions[stream].raise(int64(len(read)))
	if int64(len(read)) < least {
		t.Errorf("P15: Read of %q tells %d events, there had been %d", stream, len(read), least)
	}
	w.lock.Lock()
	defer w.lock.Unlock()
	if before, ok := w.reads[stream][len(read)]; ok && !slices.Equal(read, before) {
		t.Errorf("P15: Read of %q tells %q, and told %q", stream, read, before)
	}
	w.reads[stream][len(read)] = read
	w.asked[stream] = append(w.asked[stream], got)
}

// check: each look told a beginning of what came to be, that ends with a batch.
func (w *sights) check(t *testing.T, m *model, deeds [][]deed) {
	t.Helper()
	ends := map[string]map[int64]bool{} // the versions of each stream with which a batch ends
	for stream := range w.versions {
		ends[stream] = map[int64]bool{0: true}
	}
	for _, a := range slices.Concat(deeds...) {
		ends[a.stream][a.Version] = true
	}
	for n, got := range w.logs {
		if n > len(m.events) || !slices.Equal(got, m.events[:n]) {
			t.Fatalf("P15: All told %q, and the log is %q", text(got), text(m.events))
		}
		if n > 0 && !ends[got[n-1].Stream][got[n-1].Version] {
			t.Fatalf("P15: All told half a batch: %q", text(got))
		}
	}
	for stream, reads := range w.reads {
		var want []string
		for _, e := range m.events {
			if e.Stream == stream {
				want = append(want, fmt.Sprintf("%d=%s", e.Version, e.Data))
			}
		}
		for n, got := range reads {
			if n > len(want) || !slices.Equal(got, want[:n]) || !ends[stream][int64(n)] {
				t.Fatalf("P15: Read of %q told %q, and it is %q", stream, got, want)
			}
		}
		for _, got := range w.asked[stream] {
			if !ends[stream][got] {
				t.Fatalf("P15: the version of %q was %d, in the midst of a batch", stream, got)
			}
		}
	}
}

func TestLookingWhileOthersAppend(t *testing.T) {
	const writers, lookers, batches = 4, 4, 25
	for what, streamOf := range streamKinds() {
		some := 0
		for round := range 5 {
			d := diskOf(nil)
			s := mustOpen(t, d)
			d.behind = func() { idle(round) }
			streams := []string{"one", "own0", "own1", "own2", "own3"}
			w := newSights(streams)
			deeds := make([][]deed, writers)
			var over atomic.Int64
			atOnce(t, writers+lookers, func(who int) {
				if who >= writers {
					for i := 0; over.Load() < writers; i++ {
						w.all(t, s)
						w.stream(t, s, streams[(who+i)%len(streams)])
						idle(1)
					}
					return
				}
				defer over.Add(1)
				for k := range batches {
					a := deedOf(who, k, streamOf(who, k)).by(s)
					deeds[who] = append(deeds[who], a)
					w.hear(a)
					w.stream(t, s, a.stream)
				}
			})
			m := modelOf(nil)
			m.settle(t, what, s, d, deeds)
			w.check(t, m, deeds)
			some += len(w.logs)
		}
		if some < 20 {
			t.Errorf("%s: only %d different logs were seen", what, some)
		}
	}
}

// In the midst of each going through others append, and at last the store is closed: none of it is told.
func TestAGoingThroughStaysAsItIs(t *testing.T) {
	const goers = 6
	for _, first := range []int64{1, 2, 3, 4, 7, 8, 9, 16, 17} {
		s := mustOpen(t, diskOf(nil))
		for i := range first {
			s.Append("a", i, fmt.Sprint(i+1))
		}
		begun, appended, closed := make(chan struct{}, goers), make(chan struct{}), make(chan struct{})
		pause := func(n int64) {
			switch n {
			case 1:
				begun <- struct{}{}
				<-appended
			case (first + 1) / 2:
				<-closed
			}
		}
		var gone atomic.Int64
		atOnce(t, goers+1, func(who int) {
			switch {
			case who == goers:
				for range goers {
					<-begun
				}
				for i := range int64(20) {
					if v, err := s.Append("a", first+i, "meanwhile"); v != first+i+1 || err != nil {
						t.Errorf("P9: Append within the going through = %d, %v", v, err)
					}
				}
				close(appended)
				if err := s.Close(); err != nil {
					t.Errorf("P13: Close within the going through = %v", err)
				}
				close(closed)
			case who%2 == 0:
				n := int64(0)
				for e := range s.All(0) {
					n++
					pause(n)
					if e != event("a", n, n-1, fmt.Sprint(n)) {
						t.Errorf("P9: All tells %+v as number %d", e, n)
					}
				}
				gone.Add(n)
			default:
				n := int64(0)
				for v, data := range s.Read("a", 1) {
					n++
					pause(n)
					if v != n || data != fmt.Sprint(n) {
						t.Errorf("P9: Read tells %d %q as number %d", v, data, n)
					}
				}
				gone.Add(n)
			}
		})
		if got := gone.Load(); got != goers*first {
			t.Errorf("P9: %d were gone through by %d, told were %d", first, goers, got)
		}
	}
}

// checkClosed: the store is closed, for every call.
func checkClosed(t *testing.T, s *journal.Store) {
	for range 2 {
		if v := s.Version("first"); v != 0 {
			t.Errorf("P13: the version of a closed store is %d", v)
		}
		if got := pairs(t, s.Read("first", 0), 0); got != nil {
			t.Errorf("P13: Read of a closed store tells %q", got)
		}
		if got := all(s); got != nil {
			t.Errorf("P13: All of a closed store tells %q", text(got))
		}
		if v, err := s.Append("first", api.Any, "x"); v != 0 || err != api.ErrClosed {
			t.Errorf("P10: Append to a closed store = %d, %v", v, err)
		}
		if err := s.Close(); err != api.ErrClosed {
			t.Errorf("P13: Close of a closed store = %v", err)
		}
	}
}

// watch looks at a store that has an event, till one of the looks tells of none: then it is closed.
func watch(t *testing.T, s *journal.Store, how int) {
	for begun := time.Now(); time.Since(begun) < 10*time.Second; idle(1) {
		n := 0
		switch how % 3 {
		case 0:
			n = int(s.Version("first"))
		case 1:
			n = len(pairs(t, s.Read("first", 0), 0))
		case 2:
			n = len(all(s))
		}
		if n == 0 {
			checkClosed(t, s)
			return
		}
	}
	t.Error("P13: the store is closed and tells events")
}

// tillClosed appends so many batches; behind ErrClosed there is no other answer.
func tillClosed(t *testing.T, s *journal.Store, who, batches int) []deed {
	var l []deed
	closed := false
	for k := range batches {
		a := deedOf(who, k, eitherStream(who, k)).by(s)
		if a.Err != nil && a.Err != api.ErrClosed || a.Err == nil && closed {
			t.Errorf("P15: Append(%q) at once with Close = %d, %v", a.data, a.Version, a.Err)
		}
		if a.Err == api.ErrClosed && !closed {
			closed = true
			checkClosed(t, s)
		}
		l = append(l, a)
	}
	return l
}

func TestCloseAtOnceWithEveryCall(t *testing.T) {
	const writers, closers, lookers = 5, 3, 3
	some := 0
	for round := range 80 {
		d := diskOf(map[string]string{seg0: head(0) + record("first", 1, 0, "0")})
		s := mustOpen(t, d)
		m := modelOf(d.now())
		d.behind = func() { idle(round % 3) }
		deeds := make([][]deed, writers)
		closes := make([]error, closers)
		atOnce(t, writers+closers+lookers, func(who int) {
			switch {
			case who < writers:
				deeds[who] = tillClosed(t, s, who, 10)
			case who < writers+closers:
				idle(round * 4) // each round closes later
				closes[who-writers] = s.Close()
				checkClosed(t, s)
			default:
				watch(t, s, who)
			}
		})
		answers := map[error]int{}
		for _, err := range closes {
			answers[err]++
		}
		if answers[nil] != 1 || answers[api.ErrClosed] != closers-1 {
			t.Fatalf("P13: Close at once answers %v", closes)
		}
		if d.beside.Load() {
			t.Fatal("P2: two goroutines called the files at once")
		}
		d.behind = nil
		again := mustOpen(t, d)
		m.follow(t, "closed at once", deeds, all(again))
		m.check(t, "closed at once", again, d)
		if n := len(m.events); n > 1 && n < writers*10 {
			some++
		}
	}
	if some == 0 {
		t.Error("Close never came in the midst of the Appends")
	}
}

// Appends that wait for the files, and several Close behind them: all of them answer.
func TestCloseBehindAppendsThatWait(t *testing.T) {
	d := diskOf(nil)
	f := slow{d, make(chan struct{}, 100), make(chan struct{})}
	s := mustOpen(t, f)
	deeds := make([][]deed, 6)
	closes := make([]error, 3)
	atOnce(t, len(deeds)+len(closes)+1, func(who int) {
		switch {
		case who < len(deeds):
			deeds[who] = tillClosed(t, s, who, 3)
		case who < len(deeds)+len(closes):
			time.Sleep(20 * time.Millisecond)
			closes[who-len(deeds)] = s.Close()
		default:
			time.Sleep(50 * time.Millisecond)
			close(f.let)
		}
	})
	slices.SortFunc(closes, func(a, b error) int {
		if a == nil {
			return -1
		}
		return 1
	})
	if !slices.Equal(closes, []error{nil, api.ErrClosed, api.ErrClosed}) {
		t.Errorf("P13: Close at once answers %v", closes)
	}
	m := modelOf(nil)
	again := mustOpen(t, d)
	m.follow(t, "closed behind Appends that wait", deeds, all(again))
	m.check(t, "closed behind Appends that wait", again, d)
}
