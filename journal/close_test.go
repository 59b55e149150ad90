package journal_test

import (
	"fmt"
	"math"
	"runtime"
	"testing"
	"time"

	"journal/api"
	"journal/journal"
)

// goroutines waits till there are at most n of them, and tells how many are left.
func goroutines(n int) int {
	for range 200 {
		if runtime.NumGoroutine() <= n {
			break
		}
		time.Sleep(5 * time.Millisecond)
	}
	return runtime.NumGoroutine()
}

func TestCloseBehindAppends(t *testing.T) {
	before := runtime.NumGoroutine()
	d := diskOf(nil)
	s := mustOpen(t, d)
	m := modelOf(nil)
	for i := range 20 {
		mustAppend(t, s, d, m, fmt.Sprint("s", i%3), api.Any, "x", "y")
	}
	asked := len(d.asked)
	if err := s.Close(); err != nil {
		t.Fatalf("P13: Close = %v", err)
	}
	if n := goroutines(before); n > before {
		t.Errorf("P13: behind Close there are %d goroutines, were %d", n, before)
	}
	for range 2 {
		if err := s.Close(); err != api.ErrClosed {
			t.Errorf("P13: Close of a closed store = %v", err)
		}
		for _, expect := range []int64{api.Any, api.New, 14, math.MaxInt64} {
			if v, err := s.Append("s0", expect, "x"); v != 0 || err != api.ErrClosed {
				t.Errorf("P10: Append to a closed store = %d, %v", v, err)
			}
		}
		if v := s.Version("s0"); v != 0 || all(s) != nil || pairs(t, s.Read("s0", 0), 0) != nil {
			t.Errorf("P13: a closed store tells the version %d and %q", v, text(all(s)))
		}
	}
	if len(d.asked) != asked {
		t.Errorf("P13: Close asked the files %q", d.asked[asked:])
	}
	m.check(t, "opened anew", mustOpen(t, d), d)
}

// With one processor a goroutine that has told its end is gone when the one that waited for it goes on (but for a rare turn of the scheduler).
func TestTheWriterHasEndedWhenCloseAnswers(t *testing.T) {
	defer runtime.GOMAXPROCS(runtime.GOMAXPROCS(1))
	const rounds = 40
	ended := 0
	for range rounds {
		before := runtime.NumGoroutine()
		s := mustOpen(t, diskOf(nil))
		s.Append("a", api.New, "x")
		s.Close()
		if runtime.NumGoroutine() <= before {
			ended++
		}
	}
	if ended < rounds/2 {
		t.Errorf("P13: the goroutine that writes had ended %d times of %d when Close answered", ended, rounds)
	}
}

func TestOpenThatFailsLeavesNoGoroutine(t *testing.T) {
	before := runtime.NumGoroutine()
	for at := 1; at <= 8; at++ {
		d := diskOf(untidy())
		d.fault = failing(at, true)
		if s, err := journal.Open(d); err == nil {
			s.Close()
			t.Errorf("P6: call %d fails and Open does not", at)
		}
	}
	if n := goroutines(before); n > before {
		t.Errorf("there are %d goroutines, were %d", n, before)
	}
}

// slow is files whose Sync tells that it has begun, and waits till all of them are let go.
type slow struct {
	*disk
	begun, let chan struct{}
}

func (f slow) Sync(name string) error {
	f.begun <- struct{}{}
	<-f.let
	return f.disk.Sync(name)
}

func TestCloseWaitsForTheAppendThatIsOn(t *testing.T) {
	d := diskOf(nil)
	f := slow{d, make(chan struct{}, 10), make(chan struct{})}
	s := mustOpen(t, f)
	appended := make(chan api.Done, 1)
	go func() {
		v, err := s.Append("a", api.New, "x", "y")
		appended <- api.Done{Version: v, Err: err}
	}()
	select {
	case <-f.begun:
	case done := <-appended:
		t.Fatalf("P11: Append answers %+v without Sync", done)
	}
	closed := make(chan error, 1)
	go func() { closed <- s.Close() }()
	select {
	case done := <-appended:
		t.Errorf("P11: Append answers %+v ahead of Sync", done)
	case err := <-closed:
		t.Errorf("P13: Close answers %v while the goroutine writes", err)
	case <-time.After(50 * time.Millisecond):
	}
	if v := s.Version("a"); v != 0 || all(s) != nil {
		t.Errorf("P11: ahead of Sync the version is %d", v)
	}
	close(f.let)
	if done := <-appended; done.Version != 2 || done.Err != nil {
		t.Errorf("P11: Append = %+v", done)
	}
	if err := <-closed; err != nil {
		t.Errorf("P13: Close = %v", err)
	}
	if got, _ := logOf(d.now()); text(got) != "0:a1=x 1:a2=y" {
		t.Errorf("P11: the log is %q", text(got))
	}
}
