package journal_test

import (
	"fmt"
	"maps"
	"math"
	"runtime"
	"slices"
	"sync"
	"testing"
	"time"

	"journal/api"
	"journal/journal"
)

// goroutines waits till there are at most n of them, and tells how many are left.
func goroutines(n int) int {
	for range 200 {
		if runtime.NumGoroutine() <= n {
			break
		}
		time.Sleep(5 * time.Millisecond)
	}
	return runtime.NumGoroutine()
}

func TestCloseBehindAppends(t *testing.T) {
	before := runtime.NumGoroutine()
	d := diskOf(nil)
	s := mustOpen(t, d)
	m := modelOf(nil)
	for i := range 20 {
		mustAppend(t, s, d, m, fmt.Sprint("s", i%3), api.Any, "x", "y")
	}
	asked := len(d.asked)
	if err := s.Close(); err != nil {
		t.Fatalf("P13: Close = %v", err)
	}
	if n := goroutines(before); n > before {
		t.Errorf("P13: behind Close there are %d goroutines, were %d", n, before)
	}
	for range 2 {
		if err := s.Close(); err != api.ErrClosed {
			t.Errorf("P13: Close of a closed store = %v", err)
		}
		for _, expect := range []int64{api.Any, api.New, 14, math.MaxInt64} {
			if v, err := s.Append("s0", expect, "x"); v != 0 || err != api.ErrClosed {
				t.Errorf("P10: Append to a closed store = %d, %v", v, err)
			}
		}
		if v := s.Version("s0"); v != 0 || all(s) != nil || pairs(t, s.Read("s0", 0), 0) != nil {
			t.Errorf("P13: a closed store tells the version %d and %q", v, text(all(s)))
		}
	}
	if len(d.asked) != asked {
		t.Errorf("P13: Close asked the files %q", d.asked[asked:])
	}
	m.check(t, "opened anew", mustOpen(t, d), d)
}

// With one processor a goroutine that has told its end is gone when the one that waited for it goes on (but for a rare turn of the scheduler).
func TestTheWriterHasEndedWhenCloseAnswers(t *testing.T) {
	defer runtime.GOMAXPROCS(runtime.GOMAXPROCS(1))
	const rounds = 40
	ended := 0
	for range rounds {
		before := runtime.NumGoroutine()
		s := mustOpen(t, diskOf(nil))
		s.Append("a", api.New, "x")
		s.Close()
		if runtime.NumGoroutine() <= before {
			ended++
		}
	}
	if ended < rounds/2 {
		t.Errorf("P13: the goroutine that writes had ended %d times of %d when Close answered", ended, rounds)
	}
}

func TestOpenThatFailsLeavesNoGoroutine(t *testing.T) {
	before := runtime.NumGoroutine()
	for at := 1; at <= 8; at++ {
		d := diskOf(untidy())
		d.fault = failing(at, true)
		if s, err := journal.Open(d); err == nil {
			s.Close()
			t.Errorf("P6: call %d fails and Open does not", at)
		}
	}
	if n := goroutines(before); n > before {
		t.Errorf("there are %d goroutines, were %d", n, before)
	}
}

// slow is files whose Sync tells that it has begun, and waits till all of them are let go.
type slow struct {
	*disk
	begun, let chan struct{}
}

func (f slow) Sync(name string) error {
	f.begun <- struct{}{}
	<-f.let
	return f.disk.Sync(name)
}

func TestCloseWaitsForTheAppendThatIsOn(t *testing.T) {
	d := diskOf(nil)
	f := slow{d, make(chan struct{}, 10), make(chan struct{})}
	s := mustOpen(t, f)
	appended := make(chan api.Done, 1)
	go func() {
		v, err := s.Append("a", api.New, "x", "y")
		appended <- api.Done{Version: v, Err: err}
	}()
	select {
	case <-f.begun:
	case done := <-appended:
		t.Fatalf("P11: Append answers %+v without Sync", done)
	}
	closed := make(chan error, 1)
	go func() { closed <- s.Close() }()
	select {
	case done := <-appended:
		t.Errorf("P11: Append answers %+v ahead of Sync", done)
	case err := <-closed:
		t.Errorf("P13: Close answers %v while the goroutine writes", err)
	case <-time.After(50 * time.Millisecond):
	}
	if v := s.Version("a"); v != 0 || all(s) != nil {
		t.Errorf("P11: ahead of Sync the version is %d", v)
	}
	close(f.let)
	if done := <-appended; done.Version != 2 || done.Err != nil {
		t.Errorf("P11: Append = %+v", done)
	}
	if err := <-closed; err != nil {
		t.Errorf("P13: Close = %v", err)
	}
	if got, _ := logOf(d.now()); text(got) != "0:a1=x 1:a2=y" {
		t.Errorf("P11: the log is %q", text(got))
	}
}

// client appends with Any till the store is closed, and tells how often that was fine.
func client(t *testing.T, s *journal.Store, stream string, n int) int {
	for i := range n {
		v, err := s.Append(stream, api.Any, "x", "y")
		if err == api.ErrClosed && v == 0 {
			if w := s.Version(stream); w != 0 || len(all(s)) != 0 {
				t.Errorf("P13: behind ErrClosed the version is %d", w)
			}
			return i
		}
		if err != nil || v != int64(2*i+2) {
			t.Errorf("P11: Append = %d, %v, want %d", v, err, 2*i+2)
		}
	}
	return n
}

func TestAppendsAndCloseAtOnce(t *testing.T) {
	for round := range 60 {
		d := diskOf(nil)
		s := mustOpen(t, d)
		fine := make([]int, 6)
		closes := make([]error, 3)
		var group sync.WaitGroup
		for i := range fine {
			group.Go(func() { fine[i] = client(t, s, fmt.Sprint("s", i), 20) })
		}
		for i := range closes {
			group.Go(func() {
				for range round * 20 { // each round closes later
					runtime.Gosched()
				}
				closes[i] = s.Close()
			})
		}
		group.Wait()
		slices.SortFunc(closes, func(a, b error) int {
			if a == nil {
				return -1
			}
			return 1
		})
		if !slices.Equal(closes, []error{nil, api.ErrClosed, api.ErrClosed}) {
			t.Fatalf("P13: Close at once answers %v", closes)
		}
		got := map[string]int{}
		for _, e := range all(mustOpen(t, d)) {
			got[e.Stream]++
		}
		want := map[string]int{}
		for i, n := range fine {
			if n > 0 {
				want[fmt.Sprint("s", i)] = 2 * n
			}
		}
		if !maps.Equal(got, want) {
			t.Fatalf("P11: opened anew the streams have %v events, want %v", got, want)
		}
		if d.beside.Load() {
			t.Fatal("P2: two goroutines called the files at once")
		}
	}
}

// Each of two that expect the same version is answered, and one of them alone is taken.
func TestOneOfTwoIsTaken(t *testing.T) {
	d := diskOf(nil)
	s := mustOpen(t, d)
	for have := range int64(200) {
		done := make([]api.Done, 2)
		var group sync.WaitGroup
		for i := range done {
			group.Go(func() { done[i].Version, done[i].Err = s.Append("a", have, "x") })
		}
		group.Wait()
		if done[0].Err != nil {
			slices.Reverse(done)
		}
		e, ok := done[1].Err.(*api.VersionError)
		if done[0] != (api.Done{Version: have + 1}) || done[1].Version != 0 || !ok || *e != (api.VersionError{Stream: "a", Want: have, Have: have + 1}) {
			t.Fatalf("P10: two Appends at once answer %+v", done)
		}
	}
	if d.beside.Load() {
		t.Error("P2: two goroutines called the files at once")
	}
}

// Who reads while others append sees whole batches, in their order.
func TestReadingWhileOthersAppend(t *testing.T) {
	s := mustOpen(t, diskOf(nil))
	var group sync.WaitGroup
	for i := range 3 {
		group.Go(func() { client(t, s, fmt.Sprint("s", i), 60) })
		group.Go(func() {
			for s.Version(fmt.Sprint("s", i)) < 120 {
				events := all(s)
				for k, e := range events {
					if e.Position != int64(k) {
						t.Errorf("P9: All tells the position %d as number %d", e.Position, k)
					}
				}
				if len(events)%2 != 0 {
					t.Errorf("P15: All tells %d events: half a batch", len(events))
				}
				if n := len(pairs(t, s.Read(fmt.Sprint("s", i), 0), 0)); n%2 != 0 {
					t.Errorf("P15: Read tells %d events: half a batch", n)
				}
			}
		})
	}
	group.Wait()
}
