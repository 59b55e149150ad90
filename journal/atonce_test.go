package journal_test

import (
	"fmt"
	"maps"
	"runtime"
	"slices"
	"sync"
	"testing"

	"journal/api"
	"journal/journal"
)

// atOnce has n goroutines do something, and fails if one of them does not end.
func atOnce(t *testing.T, n int, do func(who int)) {
	t.Helper()
	var group sync.WaitGroup
	begin := make(chan struct{})
	for who := range n {
		group.Go(func() {
			<-begin
			do(who)
		})
	}
	close(begin)
	if !ended(group.Wait) {
		t.Fatal("P15: a call waits for ever")
	}
}

// idle gives others a turn, n times.
func idle(n int) {
	for range n {
		runtime.Gosched()
	}
}

// deed is one Append of several at once: what was asked, and what was answered.
type deed struct {
	stream string
	data   []string
	api.Done
}

// deedOf is the batch number k of a goroutine; its data tell whose they are.
func deedOf(who, k int, stream string) deed {
	a := deed{stream: stream}
	for i := range 1 + (who+k)%4 {
		a.data = append(a.data, fmt.Sprintf("%d.%d.%d", who, k, i))
	}
	return a
}

// by has a store append it with Any.
func (a deed) by(s *journal.Store) deed {
	a.Version, a.Err = s.Append(a.stream, api.Any, a.data...)
	return a
}

// crew has n goroutines append at once, each so many batches, and is what each of them was answered.
func crew(t *testing.T, s *journal.Store, n, batches int, streamOf func(who, k int) string) [][]deed {
	t.Helper()
	deeds := make([][]deed, n)
	atOnce(t, n, func(who int) {
		for k := range batches {
			deeds[who] = append(deeds[who], deedOf(who, k, streamOf(who, k)).by(s))
		}
	})
	return deeds
}

func oneStream(int, int) string { return "one" }

func ownStream(who, _ int) string { return fmt.Sprint("own", who) }

func eitherStream(who, k int) string {
	if (who+k)%2 == 0 {
		return oneStream(who, k)
	}
	return ownStream(who, k)
}

// streamKinds is to which streams several goroutines append.
func streamKinds() map[string]func(who, k int) string {
	return map[string]func(who, k int) string{"one stream": oneStream, "streams of their own": ownStream, "both": eitherStream}
}

// fine is those of the deeds that were answered without an error.
func fine(t *testing.T, what string, deeds [][]deed) [][]deed {
	t.Helper()
	l := make([][]deed, len(deeds))
	for who := range deeds {
		for _, a := range deeds[who] {
			if a.Err == nil {
				l[who] = append(l[who], a)
			} else if a.Version != 0 {
				t.Errorf("P1: %s: Append(%q) = %d, %v", what, a.data, a.Version, a.Err)
			}
		}
	}
	return l
}

// follow puts the deeds that were fine into the model, in the order in which a log tells them, and holds their answers against it.
func (m *model) follow(t *testing.T, what string, deeds [][]deed, log []api.Event) {
	t.Helper()
	left := fine(t, what, deeds)
	for len(m.events) < len(log) {
		who := -1
		fmt.Sscanf(log[len(m.events)].Data, "%d.", &who)
		if who < 0 || who >= len(left) || len(left[who]) == 0 {
			t.Fatalf("P15: %s: the log is %q: none was told number %d", what, text(log), len(m.events))
		}
		a := left[who][0]
		left[who] = left[who][1:]
		m.put(a.stream, a.data...)
		if a.Version != m.versions[a.stream] {
			t.Fatalf("P15: %s: Append(%q) = %d, and the log is %q", what, a.data, a.Version, text(log))
		}
	}
	for _, l := range left {
		if len(l) > 0 {
			t.Fatalf("P15: %s: Append(%q) = %d, and the log is %q", what, l[0].data, l[0].Version, text(log))
		}
	}
}

// settle: what was told, the log and the files fit together, and do so when the store is closed and opened anew.
func (m *model) settle(t *testing.T, what string, s *journal.Store, d *disk, deeds [][]deed) {
	t.Helper()
	m.follow(t, what, deeds, all(s))
	m.check(t, what, s, d)
	if d.beside.Load() {
		t.Fatalf("P2: %s: two goroutines called the files at once", what)
	}
	if err := s.Close(); err != nil {
		t.Errorf("P13: %s: Close = %v", what, err)
	}
	d.behind = nil
	m.check(t, what+", opened anew", mustOpen(t, d), d)
}

func TestManyAppendAtOnce(t *testing.T) {
	for what, streamOf := range streamKinds() {
		for _, c := range starts() {
			for round := range 3 {
				s, d := openStart(t, c)
				m := modelOf(d.now())
				d.behind = func() { idle(round) }
				deeds := crew(t, s, 8, 6, streamOf)
				for _, a := range slices.Concat(deeds...) {
					if a.Err != nil {
						t.Fatalf("P15: %s, %s: Append(%q) = %v", what, c.what, a.data, a.Err)
					}
				}
				m.settle(t, what+", "+c.what, s, d, deeds)
			}
		}
	}
}

// Appends that are refused among others, at once: they leave no trace, and the others are taken.
func TestManyAppendAndSomeAreRefused(t *testing.T) {
	for round := range 20 {
		d := diskOf(nil)
		s := mustOpen(t, d)
		d.behind = func() { idle(round % 3) }
		deeds := make([][]deed, 8)
		atOnce(t, len(deeds), func(who int) {
			for k := range 6 {
				a := deedOf(who, k, eitherStream(who, k))
				switch (who + k) % 5 {
				case 0:
					a.stream = ""
				case 1:
					a.data = append(a.data, "2", "3", "4", "5")
				case 2:
					a.data[len(a.data)-1] = "more than twenty-four bytes"
				}
				deeds[who] = append(deeds[who], a.by(s))
			}
		})
		for _, a := range slices.Concat(deeds...) {
			if want := appendError(false, false, a.stream, api.Any, 0, a.data); a.Err != want {
				t.Fatalf("P10: Append(%q, %q) = %v, want %v", a.stream, a.data, a.Err, want)
			}
		}
		modelOf(nil).settle(t, "some are refused", s, d, deeds)
	}
}

// Of many that expect the same version one is taken; the others are told what that one left.
func TestOneOfManyIsTaken(t *testing.T) {
	d := diskOf(nil)
	s := mustOpen(t, d)
	d.behind = func() { idle(1) }
	m := modelOf(nil)
	for range 120 {
		have := m.versions["a"]
		deeds := make([]deed, 6)
		atOnce(t, len(deeds), func(who int) {
			a := deedOf(who, who, "a")
			a.Version, a.Err = s.Append("a", have, a.data...)
			deeds[who] = a
		})
		for _, a := range deeds {
			if a.Err == nil {
				m.put("a", a.data...)
			}
		}
		want := &api.VersionError{Stream: "a", Want: have, Have: m.versions["a"]}
		taken := 0
		for _, a := range deeds {
			if a.Err == nil {
				taken++
			} else if !sameError(a.Err, want) {
				t.Errorf("P10: Append that expects %d = %v, want %v", have, a.Err, want)
			}
			if a.Err == nil && a.Version != want.Have || a.Err != nil && a.Version != 0 {
				t.Errorf("P15: Append that expects %d = %d, %v", have, a.Version, a.Err)
			}
		}
		if taken != 1 {
			t.Fatalf("P15: of those that expect %d so many are taken: %d", have, taken)
		}
		m.check(t, "one of many", s, d)
	}
	if d.beside.Load() {
		t.Error("P2: two goroutines called the files at once")
	}
}

// persist appends with the version that it was told last till it is taken; each time that it is not another one was, so that there is an end of it.
func persist(t *testing.T, s *journal.Store, a deed, tries int) deed {
	expect := s.Version(a.stream)
	for range tries {
		a.Version, a.Err = s.Append(a.stream, expect, a.data...)
		if a.Err == nil {
			if a.Version != expect+int64(len(a.data)) {
				t.Errorf("P11: Append(%q) behind %d = %d", a.data, expect, a.Version)
			}
			return a
		}
		e, ok := a.Err.(*api.VersionError)
		if !ok || a.Version != 0 || e.Stream != a.stream || e.Want != expect || e.Have <= expect {
			t.Errorf("P10: Append that expects %d = %d, %v", expect, a.Version, a.Err)
			return a
		}
		expect = e.Have
	}
	t.Errorf("P15: Append is told each time that another one came ahead of it: %v", a.Err)
	return a
}

func TestManyExpectVersionsAtOnce(t *testing.T) {
	for what, streamOf := range streamKinds() {
		for round := range 10 {
			d := diskOf(nil)
			s := mustOpen(t, d)
			d.behind = func() { idle(round % 3) }
			deeds := make([][]deed, 6)
			atOnce(t, len(deeds), func(who int) {
				for k := range 8 {
					deeds[who] = append(deeds[who], persist(t, s, deedOf(who, k, streamOf(who, k)), 6*8+1))
				}
			})
			modelOf(nil).settle(t, "with expected versions, "+what, s, d, deeds)
		}
	}
}

// outage is what can be left when the power fails at a moment, and the deeds that had been told ahead of it.
type outage struct {
	left []map[string]string
	told []deed
}

// witness keeps what was told, and what can be left.
type witness struct {
	lock    sync.Mutex
	told    []deed
	outages []outage
}

func (w *witness) hear(a deed) {
	w.lock.Lock()
	defer w.lock.Unlock()
	w.told = append(w.told, a)
}

// look has the power fail: what was told is taken ahead of what is left.
func (w *witness) look(crashes func() []map[string]string) {
	w.lock.Lock()
	told := slices.Clone(w.told)
	w.lock.Unlock()
	left := crashes()
	w.lock.Lock()
	defer w.lock.Unlock()
	w.outages = append(w.outages, outage{left, told})
}

// check: opened anew the log is a beginning of the whole one, with all that had been told.
func (o outage) check(t *testing.T, whole []api.Event) {
	t.Helper()
	for _, files := range o.left {
		s := mustOpen(t, diskOf(files))
		got := all(s)
		s.Close()
		if len(got) > len(whole) || !slices.Equal(got, whole[:len(got)]) {
			t.Fatalf("P14: opened anew the log is %q, and became %q", text(got), text(whole))
		}
		versions := map[string]int64{}
		for _, e := range got {
			versions[e.Stream] = e.Version
		}
		for _, a := range o.told {
			if versions[a.stream] < a.Version {
				t.Fatalf("P15: Append(%q) = %d, and opened anew the log is %q", a.data, a.Version, text(got))
			}
		}
	}
}

// The power fails right behind each answer, and behind each call of the files, while others append.
func TestEachAppendAnswersWhenItsOwnIsSafe(t *testing.T) {
	for what, streamOf := range streamKinds() {
		d := diskOf(nil)
		s := mustOpen(t, d)
		w := &witness{}
		d.behind = func() {
			w.look(d.crashes)
			idle(2)
		}
		deeds := make([][]deed, 4)
		atOnce(t, len(deeds), func(who int) {
			for k := range 4 {
				a := deedOf(who, k, streamOf(who, k)).by(s)
				deeds[who] = append(deeds[who], a)
				w.hear(a)
				w.look(d.crashesNow)
			}
		})
		m := modelOf(nil)
		m.settle(t, what, s, d, deeds)
		if len(w.outages) < 4*4*3 {
			t.Errorf("the power failed only %d times", len(w.outages))
		}
		for _, o := range w.outages {
			o.check(t, m.events)
		}
	}
}

// checkFailure: behind its first error a goroutine is told ErrFailed alone; the deeds that were told how the files failed.
func checkFailure(t *testing.T, what string, deeds [][]deed) []deed {
	t.Helper()
	var broke []deed
	for _, l := range deeds {
		failed := false
		for _, a := range l {
			switch {
			case a.Err == nil && !failed:
			case a.Err == api.ErrFailed:
				failed = true
			case !failed:
				checkFailError(t, what, a.Err, errDisk)
				broke, failed = append(broke, a), true
			default:
				t.Fatalf("P12: %s: behind an error Append(%q) = %d, %v", what, a.data, a.Version, a.Err)
			}
		}
	}
	if len(broke) == 0 {
		t.Errorf("P12: %s: none is told how the files failed", what)
	}
	return broke
}

// checkBroken: opened anew the log is what was told, and behind it a beginning of a batch that failed.
func checkBroken(t *testing.T, what string, got, told []api.Event, broke []deed) {
	t.Helper()
	versions := map[string]int64{}
	for _, e := range told {
		versions[e.Stream] = e.Version
	}
	for _, a := range broke {
		var batch []api.Event
		for i, data := range a.data {
			batch = append(batch, event(a.stream, versions[a.stream]+int64(i)+1, int64(len(told)+i), data))
		}
		if follows(got, told, batch) {
			return
		}
	}
	t.Fatalf("P12: %s: opened anew the log is %q, told was %q", what, text(got), text(told))
}

func TestFilesFailWhileManyAppend(t *testing.T) {
	found := map[int]bool{}
	for at := 1; at <= 40; at++ {
		for mode := range 4 {
			what := fmt.Sprintf("call %d fails, mode %d", at, mode)
			d := diskOf(nil)
			s := mustOpen(t, d)
			d.asked, d.fault, d.done, d.part = nil, failing(at, mode&1 != 0), mode&2 != 0, at*7%150
			d.behind = func() { idle(1) }
			deeds := crew(t, s, 6, 8, eitherStream)
			if len(d.asked) != at || d.beside.Load() {
				t.Fatalf("P12: %s: the files were asked %d times", what, len(d.asked))
			}
			broke := checkFailure(t, what, deeds)
			m := modelOf(nil)
			told := all(s)
			m.follow(t, what, deeds, told)
			for stream, want := range m.versions {
				if got := s.Version(stream); got != want {
					t.Errorf("P12: %s: the version of %q is %d, want %d", what, stream, got, want)
				}
			}
			s.Close()
			for _, files := range append(d.crashes(), d.now()) {
				again := mustOpen(t, diskOf(files))
				got := all(again)
				again.Close()
				checkBroken(t, what, got, told, broke)
				found[len(got)-len(told)] = true
			}
		}
	}
	if len(found) != 5 {
		t.Errorf("so many events of a batch that failed were found: %v", slices.Sorted(maps.Keys(found)))
	}
}
