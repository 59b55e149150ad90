package journal_test

import (
	"fmt"
	"math/rand/v2"
	"slices"
	"strings"
	"sync/atomic"
	"testing"

	"journal/api"
	"journal/journal"
)

// moment is what a store is between two calls.
type moment struct {
	events         []api.Event
	closed, failed bool
}

// pairs is what Read tells of a stream.
func (now moment) pairs(stream string) []string {
	var l []string
	for _, e := range now.events {
		if e.Stream == stream {
			l = append(l, fmt.Sprintf("%d=%s", e.Version, e.Data))
		}
	}
	return l
}

// move is one of several calls at once: when it began and was over, and whether its answer is right at a moment, and what the next one is then.
type move struct {
	what        string
	begun, over int64
	right       func(now moment) (moment, bool)
}

// inSomeOrder: the moves can stand one behind the other, none ahead of one that was over when it began, so that each answer is right.
func inSomeOrder(now moment, l []move) bool {
	if len(l) == 0 {
		return true
	}
	for i, m := range l {
		if slices.ContainsFunc(l, func(other move) bool { return other.over < m.begun }) {
			continue
		}
		next, ok := m.right(now)
		if ok && inSomeOrder(next, slices.Concat(l[:i], l[i+1:])) {
			return true
		}
	}
	return false
}

func moveAppend(s *journal.Store, stream string, expect int64, data []string) move {
	got, err := s.Append(stream, expect, data...)
	what := fmt.Sprintf("Append(%q, %d, %q) = %d, %v", stream, expect, data, got, err)
	return move{what: what, right: func(now moment) (moment, bool) {
		have := int64(len(now.pairs(stream)))
		if want := appendError(now.closed, now.failed, stream, expect, have, data); want != nil {
			return now, got == 0 && sameError(err, want)
		}
		if e, ok := err.(*api.FailError); ok {
			now.failed = true
			return now, got == 0 && e.Err == errDisk
		}
		var batch []api.Event
		for i, text := range data {
			batch = append(batch, event(stream, have+int64(i)+1, int64(len(now.events)+i), text))
		}
		now.events = slices.Concat(now.events, batch)
		return now, err == nil && got == have+int64(len(data))
	}}
}

func moveVersion(s *journal.Store, stream string) move {
	got := s.Version(stream)
	return move{what: fmt.Sprintf("Version(%q) = %d", stream, got), right: func(now moment) (moment, bool) {
		return now, got == int64(len(now.pairs(stream)))
	}}
}

func moveRead(t *testing.T, s *journal.Store, stream string) move {
	got := pairs(t, s.Read(stream, 0), 0)
	return move{what: fmt.Sprintf("Read(%q) = %q", stream, got), right: func(now moment) (moment, bool) {
		return now, slices.Equal(got, now.pairs(stream))
	}}
}

func moveAll(s *journal.Store) move {
	got := all(s)
	return move{what: fmt.Sprintf("All = %q", text(got)), right: func(now moment) (moment, bool) {
		return now, slices.Equal(got, now.events)
	}}
}

func moveClose(s *journal.Store) move {
	err := s.Close()
	return move{what: fmt.Sprintf("Close = %v", err), right: func(now moment) (moment, bool) {
		if now.closed {
			return now, err == api.ErrClosed
		}
		return moment{closed: true, failed: now.failed}, err == nil
	}}
}

// anyMove calls the store by chance.
func anyMove(t *testing.T, s *journal.Store, chance *rand.Rand, name string) move {
	stream := string(rune('a' + chance.IntN(2)))
	switch n := chance.IntN(20); {
	case n < 11:
		data := []string{name, name + "'", name + "''"}[:1+chance.IntN(3)]
		return moveAppend(s, stream, chance.Int64N(5)-1, data)
	case n < 12:
		return moveAppend(s, stream+strings.Repeat("-", 12), api.Any, []string{name})
	case n < 14:
		return moveVersion(s, stream)
	case n < 16:
		return moveRead(t, s, stream)
	case n < 19:
		return moveAll(s)
	}
	return moveClose(s)
}

// history is what came of several goroutines that call a store by chance.
func history(t *testing.T, seed uint64, d *disk, goroutines, moves int) []move {
	t.Helper()
	s := mustOpen(t, d)
	var clock atomic.Int64
	lists := make([][]move, goroutines)
	atOnce(t, goroutines, func(who int) {
		chance := rand.New(rand.NewPCG(seed, uint64(who)))
		for k := range moves {
			idle(chance.IntN(3))
			begun := clock.Add(1)
			m := anyMove(t, s, chance, fmt.Sprintf("%d.%d", who, k))
			m.begun, m.over = begun, clock.Add(1)
			lists[who] = append(lists[who], m)
		}
	})
	return slices.Concat(lists...)
}

// overlaps is how many pairs of moves were on at the same time.
func overlaps(l []move) int {
	n := 0
	for i, m := range l {
		for _, other := range l[:i] {
			if m.begun < other.over && other.begun < m.over {
				n++
			}
		}
	}
	return n
}

// Whatever is called at once: it is as if one call came behind the other.
func TestCallsAtOnceAreInSomeOrder(t *testing.T) {
	beside := 0
	for seed := range uint64(2000) {
		d := diskOf(nil)
		d.behind = func() { idle(int(seed % 4)) }
		if seed%3 == 0 {
			d.fault, d.part = failing(2+int(seed/3%12), seed%2 == 0), int(seed%100)
		}
		l := history(t, seed, d, 4, 3)
		beside += overlaps(l)
		if !inSomeOrder(moment{}, l) {
			slices.SortFunc(l, func(a, b move) int { return int(a.begun - b.begun) })
			for _, m := range l {
				t.Logf("from %d to %d: %s", m.begun, m.over, m.what)
			}
			t.Fatalf("P15: seed %d: in no order are these answers right", seed)
		}
		if d.beside.Load() {
			t.Fatal("P2: two goroutines called the files at once")
		}
	}
	if beside < 2000 {
		t.Errorf("only %d pairs of calls were on at the same time", beside)
	}
}

// The tests' own search tells what cannot be: that the log has no event is told behind an Append, or not.
func TestNoOrderIsFound(t *testing.T) {
	s := mustOpen(t, diskOf(nil))
	none, first := moveAll(s), moveAppend(s, "a", api.New, []string{"x"})
	first.begun, first.over = 3, 5
	for _, c := range []struct {
		begun, over int64
		want        bool
	}{{1, 2, true}, {1, 9, true}, {4, 6, true}, {6, 7, false}} {
		none.begun, none.over = c.begun, c.over
		if got := inSomeOrder(moment{}, []move{first, none}); got != c.want {
			t.Errorf("an order is found for %+v: %v", c, got)
		}
	}
}
