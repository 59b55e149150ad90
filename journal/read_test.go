package journal_test

import (
	"fmt"
	"iter"
	"math"
	"slices"
	"sync"
	"testing"

	"journal/api"
	"journal/journal"
)

// stored is a store with a1 x, b1 y, a2 "", a3 z in two segments.
func stored(t *testing.T) *journal.Store {
	t.Helper()
	return mustOpen(t, diskOf(map[string]string{
		seg0: head(0) + record("a", 1, 0, "x") + record("b", 1, 1, "y") + record("a", 2, 2, ""),
		seg3: head(3) + record("a", 3, 3, "z"),
	}))
}

// pairs is what Read tells, till it is stopped behind n (0: it is not).
func pairs(t *testing.T, seq api.Seq2[int64, string], n int) []string {
	t.Helper()
	var l []string
	seq(func(version int64, data string) bool {
		if n > 0 && len(l) == n {
			t.Errorf("P9: Read went on behind %q", l)
		}
		l = append(l, fmt.Sprintf("%d=%s", version, data))
		return len(l) != n
	})
	return l
}

// stopped is what All tells, till it is stopped behind n (0: it is not).
func stopped(t *testing.T, seq api.Seq[api.Event], n int) []api.Event {
	t.Helper()
	var l []api.Event
	seq(func(e api.Event) bool {
		if n > 0 && len(l) == n {
			t.Errorf("P9: All went on behind %q", text(l))
		}
		l = append(l, e)
		return len(l) != n
	})
	return l
}

func TestVersion(t *testing.T) {
	s := stored(t)
	for stream, want := range map[string]int64{"a": 3, "b": 1, "c": 0, "": 0, "A": 0, "a ": 0, "aa": 0, "\x00": 0, "a name of more than 12 bytes": 0} {
		if got := s.Version(stream); got != want {
			t.Errorf("P9: Version(%q) = %d, want %d", stream, got, want)
		}
	}
	if got := mustOpen(t, diskOf(nil)).Version("a"); got != 0 {
		t.Errorf("P9: Version without events = %d", got)
	}
}

func TestVersionOfAnyName(t *testing.T) {
	segment := head(0)
	names := []string{"\x00", "\xff\xfe", "größe", "twelve-bytes", "twelve-byteS", "\n", " ", "seg-00000000"}
	for i, name := range names {
		segment += record(name, 1, int64(2*i), name) + record(name, 2, int64(2*i+1), "")
	}
	s := mustOpen(t, diskOf(map[string]string{seg0: segment}))
	for _, name := range names {
		if got := s.Version(name); got != 2 {
			t.Errorf("P9: Version(%q) = %d, want 2", name, got)
		}
		if got, want := pairs(t, s.Read(name, 0), 0), []string{"1=" + name, "2="}; !slices.Equal(got, want) {
			t.Errorf("P9: Read(%q) tells %q, want %q", name, got, want)
		}
	}
}

func TestReadFromAnyVersion(t *testing.T) {
	s := stored(t)
	for _, c := range []struct {
		stream string
		from   int64
		want   []string
	}{
		{"a", math.MinInt64, []string{"1=x", "2=", "3=z"}},
		{"a", math.MinInt64 + 1, []string{"1=x", "2=", "3=z"}},
		{"a", -1, []string{"1=x", "2=", "3=z"}},
		{"a", 0, []string{"1=x", "2=", "3=z"}},
		{"a", 1, []string{"1=x", "2=", "3=z"}},
		{"a", 2, []string{"2=", "3=z"}},
		{"a", 3, []string{"3=z"}},
		{"a", 4, nil},
		{"a", 1 << 32, nil},
		{"a", 1<<32 + 2, nil},
		{"a", math.MaxInt64, nil},
		{"b", 0, []string{"1=y"}},
		{"b", 1, []string{"1=y"}},
		{"b", 2, nil},
		{"c", 0, nil},
		{"c", math.MinInt64, nil},
		{"c", math.MaxInt64, nil},
		{"", 0, nil},
		{"a name of more than 12 bytes", 0, nil},
	} {
		seq := s.Read(c.stream, c.from)
		for range 2 {
			if got := pairs(t, seq, 0); !slices.Equal(got, c.want) {
				t.Errorf("P9: Read(%q, %d) tells %q, want %q", c.stream, c.from, got, c.want)
			}
		}
		for n := 1; n <= len(c.want); n++ {
			if got := pairs(t, seq, n); !slices.Equal(got, c.want[:n]) {
				t.Errorf("P9: Read(%q, %d), stopped behind %d, tells %q, want %q", c.stream, c.from, n, got, c.want[:n])
			}
		}
		if got := pairs(t, seq, 0); !slices.Equal(got, c.want) {
			t.Errorf("P9: Read(%q, %d), stopped and begun again, tells %q, want %q", c.stream, c.from, got, c.want)
		}
	}
}

func TestAllFromAnyPosition(t *testing.T) {
	s := stored(t)
	whole := []api.Event{event("a", 1, 0, "x"), event("b", 1, 1, "y"), event("a", 2, 2, ""), event("a", 3, 3, "z")}
	for _, c := range []struct {
		from int64
		want []api.Event
	}{
		{math.MinInt64, whole}, {math.MinInt64 + 1, whole}, {-1, whole}, {0, whole}, {1, whole[1:]}, {2, whole[2:]}, {3, whole[3:]},
		{4, nil}, {5, nil}, {1 << 32, nil}, {1<<32 + 1, nil}, {math.MaxInt64, nil},
	} {
		seq := s.All(c.from)
		for range 2 {
			if got := stopped(t, seq, 0); !slices.Equal(got, c.want) {
				t.Errorf("P9: All(%d) tells %q, want %q", c.from, text(got), text(c.want))
			}
		}
		for n := 1; n <= len(c.want); n++ {
			if got := stopped(t, seq, n); !slices.Equal(got, c.want[:n]) {
				t.Errorf("P9: All(%d), stopped behind %d, tells %q, want %q", c.from, n, text(got), text(c.want[:n]))
			}
		}
		if got := stopped(t, seq, 0); !slices.Equal(got, c.want) {
			t.Errorf("P9: All(%d), stopped and begun again, tells %q, want %q", c.from, text(got), text(c.want))
		}
	}
}

func TestReadKeepsNothing(t *testing.T) {
	s := stored(t)
	stream, b := loose("a")
	seq := s.Read(stream, 2)
	b[0] = 'b'
	if got := pairs(t, seq, 0); !slices.Equal(got, []string{"2=", "3=z"}) {
		t.Errorf("P2: Read(a, 2) tells %q when the name is changed behind the call", got)
	}
}

func TestGoingThroughNothing(t *testing.T) {
	s := mustOpen(t, diskOf(nil))
	for _, from := range []int64{math.MinInt64, -1, 0, 1, math.MaxInt64} {
		if got := stopped(t, s.All(from), 0); got != nil {
			t.Errorf("P9: All(%d) without events tells %q", from, text(got))
		}
		if got := pairs(t, s.Read("a", from), 0); got != nil {
			t.Errorf("P9: Read(%d) without events tells %q", from, got)
		}
	}
}

func TestGoingThroughByRange(t *testing.T) {
	s := stored(t)
	n := 0
	for e := range s.All(-5) {
		for version, data := range s.Read(e.Stream, e.Version) {
			if version != e.Version || data != e.Data {
				t.Errorf("P9: Read tells %d %q within %+v", version, data, e)
			}
			n++
			break
		}
		if e.Position == 2 {
			break
		}
	}
	if n != 3 {
		t.Errorf("P9: %d events were gone through, want 3", n)
	}
}

// Two that are gone through by turns do not know of each other.
func TestGoingThroughByTurns(t *testing.T) {
	s := stored(t)
	seq := iter.Seq[api.Event](s.All(0))
	first, stopFirst := iter.Pull(seq)
	defer stopFirst()
	second, stopSecond := iter.Pull(seq)
	defer stopSecond()
	first()
	for want := range int64(3) {
		a, _ := first()
		b, _ := second()
		if a.Position != want+1 || b.Position != want {
			t.Errorf("P9: by turns %d and %d are told, want %d and %d", a.Position, b.Position, want+1, want)
		}
	}
}

// A caller that panics leaves the store as it was.
func TestGoingThroughWithAPanic(t *testing.T) {
	s := stored(t)
	func() {
		defer func() { recover() }()
		for range s.All(0) {
			panic("the caller")
		}
	}()
	if err := s.Close(); err != nil {
		t.Errorf("P13: Close = %v", err)
	}
}

func TestCloseEndsTheStore(t *testing.T) {
	s := stored(t)
	allBefore, readBefore := s.All(0), s.Read("a", 0)
	if err := s.Close(); err != nil {
		t.Fatalf("P13: Close = %v", err)
	}
	if err := s.Close(); err != api.ErrClosed {
		t.Errorf("P13: Close of a closed store = %v", err)
	}
	if got := s.Version("a"); got != 0 {
		t.Errorf("P13: Version of a closed store = %d", got)
	}
	for _, seq := range []api.Seq[api.Event]{allBefore, s.All(0), s.All(math.MinInt64), s.All(2)} {
		if got := stopped(t, seq, 0); got != nil {
			t.Errorf("P13: All of a closed store tells %q", text(got))
		}
	}
	for _, seq := range []api.Seq2[int64, string]{readBefore, s.Read("a", 0), s.Read("a", 2)} {
		if got := pairs(t, seq, 0); got != nil {
			t.Errorf("P13: Read of a closed store tells %q", got)
		}
	}
}

// What had been appended when the going through began is told, also if the store is closed in its midst.
func TestCloseWithinTheGoingThrough(t *testing.T) {
	s := stored(t)
	n := 0
	for range s.All(0) {
		if n++; n == 1 {
			s.Close()
		}
	}
	if n != 4 {
		t.Errorf("P9: All told %d events, want 4", n)
	}
}

func TestStoresOverTheSameFilesAreTheirOwn(t *testing.T) {
	d := diskOf(map[string]string{seg0: head(0) + recA1})
	first, second := mustOpen(t, d), mustOpen(t, d)
	first.Close()
	if got := text(all(second)); got != "0:a1=x" {
		t.Errorf("P9: All tells %q when another store is closed", got)
	}
}

func TestReadingAtOnce(t *testing.T) {
	s := stored(t)
	var group sync.WaitGroup
	for range 8 {
		group.Go(func() {
			for range 200 {
				if n := len(all(s)); n != 4 && n != 0 {
					t.Errorf("P9: All told %d events", n)
				}
				if v := s.Version("a"); v != 3 && v != 0 {
					t.Errorf("P9: the version is %d", v)
				}
			}
		})
	}
	group.Go(func() { s.Close() })
	group.Wait()
}
