package journal_test

import (
	"fmt"
	"maps"
	"math/rand/v2"
	"slices"
	"strings"
	"testing"

	"journal/api"
	"journal/journal"
	"journal/plain"
)

// follows: the log is what was told, and behind it a beginning of the batch.
func follows(got, told, batch []api.Event) bool {
	n := len(got) - len(told)
	return n >= 0 && n <= len(batch) && slices.Equal(got[:len(told)], told) && slices.Equal(got[len(told):], batch[:n])
}

// eventsOf is the events of a batch to the stream f behind a log that has no other stream.
func eventsOf(before []api.Event, batch []string) []api.Event {
	n := int64(len(before))
	var l []api.Event
	for i, data := range batch {
		l = append(l, event("f", n+int64(i)+1, n+int64(i), data))
	}
	return l
}

// checkSafe: whatever is left when the power fails now, the log is what was told.
func checkSafe(t *testing.T, what string, d *disk, told []api.Event) {
	t.Helper()
	for _, files := range d.crashes() {
		if got, _ := logOf(files); !slices.Equal(got, told) {
			t.Fatalf("P14: %s: when the power fails the log is %q, told was %q", what, text(got), text(told))
		}
	}
}

// checkAnew: the files are opened anew behind a power failure: the store has all that was told and the whole events of the batch, all of it is safe, and the log goes on.
func checkAnew(t *testing.T, what string, files map[string]string, told, batch []api.Event) {
	t.Helper()
	want, _ := logOf(files)
	if !follows(want, told, batch) {
		t.Fatalf("P14: %s: the log is %q, told was %q", what, text(want), text(told))
	}
	d := diskOf(files)
	s := mustOpen(t, d)
	if got := all(s); !slices.Equal(got, want) {
		t.Fatalf("P14: %s: opened anew, All tells %q, want %q", what, text(got), text(want))
	}
	checkSafe(t, what+": opened anew", d, want)
	m := modelOf(d.now())
	mustAppend(t, s, d, m, "f", m.versions["f"], "next")
	checkSafe(t, what+": gone on", d, m.events)
	s.Close()
}

// However the power fails while batches are appended, all that was told is there, and a beginning of the batch.
func TestPowerFailsWithinAppend(t *testing.T) {
	for _, batch := range batches() {
		d := diskOf(nil)
		s := mustOpen(t, d)
		var told []api.Event
		var left []map[string]string
		seen := map[int]bool{}
		d.behind = func() { left = append(left, d.crashes()...) }
		for range 6 {
			next := eventsOf(told, batch)
			left = d.crashes()
			if _, err := s.Append("f", api.Any, batch...); err != nil {
				t.Fatalf("P11: Append = %v", err)
			}
			for _, files := range left {
				checkAnew(t, "within Append", files, told, next)
				got, _ := logOf(files)
				seen[len(got)-len(told)] = true
			}
			told = append(told, next...)
			checkSafe(t, "between calls", d, told)
		}
		d.behind = nil
		s.Close()
		checkSafe(t, "behind Close", d, told)
		if len(seen) != len(batch)+1 {
			t.Errorf("so many events of a batch were left: %v", slices.Sorted(maps.Keys(seen)))
		}
	}
}

// cutOff is what files can be when the power fails at a call: none, some or all of it is done, and all calls behind it fail.
func cutOff(files map[string]string, at, part int, done bool, do func(*disk)) []map[string]string {
	d := diskOf(files)
	d.fault, d.part, d.done = failing(at, true), part, done
	do(d)
	return d.crashes()
}

// opened opens the files, as far as that goes.
func opened(d *disk) {
	if s, err := journal.Open(d); err == nil {
		s.Close()
	}
}

// appended opens the files and appends a batch, as far as that goes.
func appended(batch []string) func(*disk) {
	return func(d *disk) {
		s, err := journal.Open(d)
		if err != nil {
			return
		}
		s.Append("f", api.Any, batch...)
		s.Close()
	}
}

// callsOf is how many calls of the files something takes.
func callsOf(files map[string]string, do func(*disk)) int {
	d := diskOf(files)
	do(d)
	return len(d.asked)
}

// key is files as a text, so that those are found that were there before.
func key(files map[string]string) string {
	var b strings.Builder
	for _, name := range slices.Sorted(maps.Keys(files)) {
		fmt.Fprintf(&b, "%q:%q ", name, files[name])
	}
	return b.String()
}

// allCuts is all that files can be when the power fails at any call of something.
func allCuts(files map[string]string, parts []int, do func(*disk)) map[string]map[string]string {
	l := map[string]map[string]string{}
	for at := 1; at <= callsOf(files, do); at++ {
		for _, part := range parts {
			for _, done := range []bool{false, true} {
				for _, left := range cutOff(files, at, part, done, do) {
					l[key(left)] = left
				}
			}
		}
	}
	return l
}

func TestPowerFailsAtEachCallOfAppend(t *testing.T) {
	for _, c := range starts() {
		told, _ := logOf(c.files)
		for _, batch := range batches() {
			left := allCuts(c.files, []int{0, 1, 1000}, appended(batch))
			if len(left) < 20 {
				t.Errorf("%s: the power leaves only %d kinds of files", c.what, len(left))
			}
			for _, files := range left {
				checkAnew(t, c.what, files, told, eventsOf(told, batch))
			}
		}
	}
}

// The power fails within Append, then within Open, and within the next one, at each of their calls.
func TestPowerFailsAgainAndAgain(t *testing.T) {
	for _, c := range starts() {
		told, _ := logOf(c.files)
		for _, batch := range batches() {
			for _, files := range allCuts(c.files, []int{0, 1, 1000}, appended(batch)) {
				want, _ := logOf(files)
				for _, files := range allCuts(files, []int{0}, opened) {
					for _, files := range allCuts(files, []int{0}, opened) {
						if got, _ := logOf(files); !slices.Equal(got, want) || !follows(got, told, eventsOf(told, batch)) {
							t.Fatalf("P8: %s: the log is %q, was %q", c.what, text(got), text(want))
						}
					}
				}
			}
		}
	}
}

// Files that no store has written: the log stays as it is, however often Open is cut off.
func TestPowerFailsWithinOpenAgainAndAgain(t *testing.T) {
	for _, c := range append(openings(), opening{what: "untidy files", files: untidy()}) {
		want, _ := logOf(c.files)
		next := map[string]map[string]string{"": c.files}
		seen := map[string]bool{}
		for len(next) > 0 {
			var far []map[string]string
			for _, files := range next {
				far = append(far, slices.Collect(maps.Values(allCuts(files, []int{0}, opened)))...)
			}
			clear(next)
			for _, files := range far {
				got, _ := logOf(files)
				if !slices.Equal(got, want) {
					t.Fatalf("P8: %s: the log is %q, was %q", c.what, text(got), text(want))
				}
				if !seen[key(files)] {
					seen[key(files)], next[key(files)] = true, files
					s := mustOpen(t, diskOf(files))
					if got := all(s); !slices.Equal(got, want) {
						t.Fatalf("P8: %s: opened anew, All tells %q, want %q", c.what, text(got), text(want))
					}
					s.Close()
				}
			}
		}
	}
}

// The files fail, not the power: what is not safe then is opened anew, and that fails too, or the power does.
func TestOpenOfWhatIsNotSafe(t *testing.T) {
	for _, c := range starts() {
		told, _ := logOf(c.files)
		batch := batches()[2]
		for part := range 140 {
			for at := 1; at <= 20; at++ {
				what := fmt.Sprintf("%s: Append fails as number %d, Open at call %d", c.what, part, at)
				s, d := openStart(t, c)
				d.fault, d.part = failing(1, false), part
				s.Append("f", api.Any, batch...)
				s.Close()
				want, _ := logOf(d.now())
				d.asked, d.fault, d.done = nil, failing(at, true), part%2 == 0
				s, err := journal.Open(d)
				if got, _ := logOf(d.now()); !slices.Equal(got, want) {
					t.Fatalf("P8: %s: the log is %q, was %q", what, text(got), text(want))
				}
				for _, files := range d.crashes() {
					if got, _ := logOf(files); !follows(got, told, eventsOf(told, batch)) {
						t.Fatalf("P14: %s: the log is %q, told was %q", what, text(got), text(told))
					}
				}
				if err == nil { // it was done ahead of that call
					checkSafe(t, what, d, want)
					s.Close()
					break
				}
				d.fault = nil
				s = mustOpen(t, d)
				if got := all(s); !slices.Equal(got, want) {
					t.Fatalf("P8: %s: opened anew, All tells %q, want %q", what, text(got), text(want))
				}
				checkSafe(t, what, d, want)
				s.Close()
			}
		}
	}
}

// life is a store over a long time, in which files and power fail.
type life struct {
	t      *testing.T
	chance *rand.Rand
	disk   *disk
	store  *journal.Store // nil: it is not open
	failed bool
	told   []api.Event
	maybe  []api.Event // the batch that may stand behind what was told
	tale   []string    // what has happened
	counts map[string]int
}

func (l *life) note(format string, args ...any) {
	l.tale = append(l.tale, fmt.Sprintf(format, args...))
}

func (l *life) fatal(format string, args ...any) {
	l.t.Helper()
	l.t.Fatalf("%s; %s", fmt.Sprintf(format, args...), strings.Join(l.tale, "; "))
}

// spoil has one of the next calls of the files fail, or none of them.
func (l *life) spoil() {
	d := l.disk
	d.asked, d.fault = nil, nil
	if l.chance.IntN(3) == 0 {
		d.fault = failing(1+l.chance.IntN(4), l.chance.IntN(2) == 0)
		d.done, d.part = l.chance.IntN(3) == 0, l.chance.IntN(90)
	}
}

func (l *life) open() {
	want, _ := logOf(l.disk.now())
	l.spoil()
	s, err := journal.Open(l.disk)
	l.note("Open: %v, %q", err, l.disk.asked)
	if err != nil {
		l.counts["Open fails"]++
		if got, _ := logOf(l.disk.now()); !slices.Equal(got, want) {
			l.fatal("P8: the log is %q, was %q", text(got), text(want))
		}
		l.checkLeft()
		return
	}
	l.counts["Open"]++
	if got := all(s); !slices.Equal(got, want) || !follows(got, l.told, l.maybe) {
		l.fatal("P14: Open: All tells %q, told was %q", text(got), text(l.told))
	}
	if len(want) > len(l.told) {
		l.counts["a batch is found"]++
	}
	l.store, l.failed, l.told, l.maybe = s, false, want, nil
	l.checkLeft()
}

func (l *life) append() {
	stream, versions := string(rune('a'+l.chance.IntN(3))), map[string]int64{}
	for _, e := range l.told {
		versions[e.Stream] = e.Version
	}
	var batch []api.Event
	var data []string
	for i := range 1 + l.chance.Int64N(4) {
		data = append(data, strings.Repeat(fmt.Sprint(i), l.chance.IntN(25)))
		batch = append(batch, event(stream, versions[stream]+i+1, int64(len(l.told))+i, data[i]))
	}
	l.spoil()
	v, err := l.store.Append(stream, versions[stream], data...)
	l.note("Append(%q): %d, %v, %q", data, v, err, l.disk.asked)
	switch {
	case l.failed:
		if v != 0 || err != api.ErrFailed || l.disk.asked != nil {
			l.fatal("P12: a store that has failed answers %d, %v", v, err)
		}
	case err != nil:
		checkFailError(l.t, "Append", err, errDisk)
		l.failed, l.maybe = true, batch
		l.counts["Append fails"]++
	default:
		l.told = append(l.told, batch...)
		l.counts["Append"]++
	}
	if got := all(l.store); !slices.Equal(got, l.told) {
		l.fatal("P12: All tells %q, told was %q", text(got), text(l.told))
	}
	l.checkLeft()
}

// checkLeft: the power may fail now. Of all that can be left then a part is looked at, and another one in each life.
func (l *life) checkLeft() {
	left := l.disk.crashes()
	for range min(len(left), 4) {
		files := left[l.chance.IntN(len(left))]
		if got, _ := logOf(files); !follows(got, l.told, l.maybe) {
			l.fatal("P14: when the power fails the log is %q, told was %q", text(got), text(l.told))
		}
	}
}

func (l *life) close() {
	if err := l.store.Close(); err != nil {
		l.fatal("P13: Close = %v", err)
	}
	l.note("Close")
	l.store = nil
}

func (l *life) power() {
	if l.store != nil {
		l.close()
	}
	left := l.disk.crashes()
	l.disk = diskOf(left[l.chance.IntN(len(left))])
	l.note("the power fails")
	l.counts["the power fails"]++
}

func TestALongLife(t *testing.T) {
	counts := map[string]int{}
	for seed := range uint64(300) {
		l := &life{t: t, chance: rand.New(rand.NewPCG(seed, 1)), disk: diskOf(nil), counts: counts}
		for range 60 {
			switch n := l.chance.IntN(10); {
			case n == 0:
				l.power()
			case l.store == nil:
				l.open()
			case n == 1:
				l.close()
			default:
				l.append()
			}
		}
		if l.store != nil {
			l.close()
		}
	}
	for _, what := range []string{"Open", "Open fails", "Append", "Append fails", "the power fails", "a batch is found"} {
		if counts[what] < 100 {
			t.Errorf("%q came %d times", what, counts[what])
		}
	}
}

// plainLog is what a store tells that is asked from outside.
func plainLog(t *testing.T, s *plain.Store) []api.Event {
	t.Helper()
	l, right := s.All(0, 0)
	if !right {
		t.Fatal("P9: All went on")
	}
	var events []api.Event
	for _, e := range l {
		events = append(events, event(e.Stream, e.Version, e.Position, e.Data))
	}
	return events
}

// The same by the files of package plain, which fail in their own way.
func TestALongLifeFromOutside(t *testing.T) {
	for seed := range uint64(300) {
		chance := rand.New(rand.NewPCG(seed, 2))
		d := plain.NewDisk(nil)
		var told, maybe []api.Event
		for range 25 {
			if chance.IntN(2) == 0 {
				d.Fault(1+chance.IntN(5), chance.IntN(100), chance.IntN(2) == 0)
			}
			d.Fresh()
			s, err := plain.Open(d)
			if s == nil && (err.Err != plain.Broken || !err.Ours) {
				t.Fatalf("P6: Open answers %+v", err)
			}
			if s != nil {
				got := plainLog(t, s)
				if err.Err != plain.Fine || !follows(got, told, maybe) {
					t.Fatalf("P14: seed %d: Open: %+v, All tells %q, told was %q", seed, err, text(got), text(told))
				}
				told, maybe = plainAppends(t, chance, s, d, got)
			}
			if chance.IntN(2) == 0 {
				d = d.After(chance.IntN(1000))
			}
		}
	}
}

// plainAppends appends till the files fail, or some times, and closes the store: what was told, and the batch that may stand behind it.
func plainAppends(t *testing.T, chance *rand.Rand, s *plain.Store, d *plain.Disk, told []api.Event) ([]api.Event, []api.Event) {
	t.Helper()
	defer s.Close()
	if chance.IntN(2) == 0 {
		d.Fault(1+chance.IntN(8), chance.IntN(150), chance.IntN(2) == 0)
	}
	for range chance.IntN(6) {
		data := []string{"one", strings.Repeat("2", chance.IntN(25)), "three"}[:1+chance.IntN(3)]
		batch := eventsOf(told, data)
		d.Fresh()
		v, err := s.Append("f", api.Any, data)
		if err.Err != plain.Fine {
			if v != 0 || err.Err != plain.Broken || !err.Ours || !slices.Equal(plainLog(t, s), told) {
				t.Fatalf("P12: Append = %d, %+v", v, err)
			}
			d.Fresh()
			if v, err := s.Append("f", 77, data); v != 0 || err.Err != plain.Failed || d.Hit() {
				t.Fatalf("P12: Append of a store that has failed = %d, %+v", v, err)
			}
			return told, batch
		}
		if told = append(told, batch...); v != int64(len(told)) {
			t.Fatalf("P11: Append = %d, want %d", v, len(told))
		}
	}
	return told, nil
}
