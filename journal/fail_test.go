package journal_test

import (
	"errors"
	"fmt"
	"maps"
	"slices"
	"strings"
	"testing"

	"journal/api"
	"journal/journal"
)

// start is files ahead of a batch, and whether the batch needs a new segment.
type start struct {
	what  string
	files map[string]string
	fresh bool
}

func starts() []start {
	full := filled(200)
	next := uint64(len(modelOf(map[string]string{seg0: full}).events))
	second := fmt.Sprintf("seg-%08d", next)
	more := record("f", int64(next)+1, int64(next), "of the second")
	return []start{
		{"no files", nil, true},
		{"other files alone", map[string]string{"other": "o"}, true},
		{"a head alone", map[string]string{seg0: head(0)}, false},
		{"a segment with room", map[string]string{seg0: filled(120)}, false},
		{"a segment with just room", map[string]string{seg0: filled(159)}, false},
		{"a segment just full", map[string]string{seg0: filled(160)}, true},
		{"a full segment", map[string]string{seg0: full, "other": "o"}, true},
		{"a second segment without a record", map[string]string{seg0: full, second: head(next)}, false},
		{"a second segment", map[string]string{seg0: full, second: head(next) + more}, false},
	}
}

// batches is what is being appended when files or power fail, to the stream f.
func batches() [][]string {
	return [][]string{{""}, {"one", "two", "three"}, {"", strings.Repeat("l", 24), "", "4"}}
}

// records is the records of a batch behind a log.
func records(before []api.Event, batch []string) []string {
	n := int64(len(before))
	var l []string
	for i, data := range batch {
		l = append(l, record("f", n+int64(i)+1, n+int64(i), data))
	}
	return l
}

// begun is the model when the first n bytes of a batch, and of the head ahead of it, stand in the files, and these have been opened anew; and how many events of the batch are whole.
func begun(c start, batch []string, n int) (*model, int) {
	m := modelOf(c.files)
	l := records(m.events, batch)
	if c.fresh {
		n -= 16
	}
	if n < 0 {
		return m, 0
	}
	whole := 0
	for whole < len(l) && n >= len(l[whole]) {
		n -= len(l[whole])
		whole++
	}
	m.put("f", batch[:whole]...)
	return m, whole
}

// openStart is a store over files that were not asked anything yet.
func openStart(t *testing.T, c start) (*journal.Store, *disk) {
	t.Helper()
	d := diskOf(c.files)
	s := mustOpen(t, d)
	d.asked = nil
	return s, d
}

// checkFailError: the error is a FailError with just that error in it.
func checkFailError(t *testing.T, what string, err, want error) {
	t.Helper()
	var f *api.FailError
	if _, ok := err.(*api.FailError); !ok || !errors.As(err, &f) || f.Err != want || errors.Unwrap(err) != want {
		t.Fatalf("P6: %s: the error is %#v, want a *FailError with %#v in it", what, err, want)
	}
	if !errors.Is(err, want) || !errors.Is(err, api.ErrFailed) {
		t.Errorf("P6: %s: errors.Is does not find %v and ErrFailed in %#v", what, want, err)
	}
}

// checkStopped: the store has failed for good, tells what had been appended, and lets the files be.
func checkStopped(t *testing.T, what string, s *journal.Store, d *disk, want []api.Event) {
	t.Helper()
	asked, files, have := len(d.asked), d.now(), int64(len(want))
	for range 2 {
		for _, expect := range []int64{api.Any, have, have + 3, 99, -2} {
			if v, err := s.Append("f", expect, "x"); v != 0 || err != api.ErrFailed {
				t.Errorf("P12: %s: Append of a store that has failed = %d, %v", what, v, err)
			}
		}
		if v, err := s.Append("other", api.New, "x"); v != 0 || err != api.ErrFailed {
			t.Errorf("P12: %s: Append of a store that has failed = %d, %v", what, v, err)
		}
		if v, err := s.Append("f", 99, strings.Repeat("x", 25)); v != 0 || err != api.ErrData {
			t.Errorf("P10: %s: Append of a store that has failed = %d, %v, want ErrData", what, v, err)
		}
		if got := all(s); !slices.Equal(got, want) {
			t.Errorf("P12: %s: All tells %q, want %q", what, text(got), text(want))
		}
		if got := s.Version("f"); got != have {
			t.Errorf("P12: %s: the version is %d, want %d", what, got, have)
		}
		if got := pairs(t, s.Read("f", 0), 0); int64(len(got)) != have {
			t.Errorf("P12: %s: Read tells %q, want %d events", what, got, have)
		}
	}
	if err := s.Close(); err != nil {
		t.Errorf("P12: %s: Close of a store that has failed = %v", what, err)
	}
	if v, err := s.Append("f", api.Any, "x"); v != 0 || err != api.ErrClosed || s.Version("f") != 0 || all(s) != nil {
		t.Errorf("P13: %s: behind Close Append = %d, %v, and All tells %q", what, v, err, text(all(s)))
	}
	if len(d.asked) != asked || !maps.Equal(d.now(), files) {
		t.Errorf("P12: %s: the files were asked %q behind the error", what, d.asked[asked:])
	}
}

// checkBegun: opened anew, the files hold what there was and the whole events of the batch, and the log goes on.
func checkBegun(t *testing.T, what string, d *disk, c start, batch []string, n int) {
	t.Helper()
	m, whole := begun(c, batch, n)
	d.fault, d.part, d.done = nil, 0, false
	s := mustOpen(t, d)
	m.check(t, fmt.Sprintf("%s: %d events are whole", what, whole), s, d)
	mustAppend(t, s, d, m, "f", m.versions["f"], "more", "and more")
	mustAppend(t, s, d, m, "other", api.New, "other")
	s.Close()
}

// The writing fails when any number of bytes stand there (0: the file, if it is new, is not even made).
func TestTheWritingFails(t *testing.T) {
	for _, c := range starts() {
		for _, batch := range batches() {
			size := len(strings.Join(records(modelOf(c.files).events, batch), ""))
			if c.fresh {
				size += 16
			}
			for part := range size + 2 {
				for _, dead := range []bool{false, true} {
					what := fmt.Sprintf("%s: Append(%q) fails as number %d, for good: %v", c.what, batch, part, dead)
					s, d := openStart(t, c)
					want := all(s)
					d.fault, d.part = failing(1, dead), part
					v, err := s.Append("f", api.Any, batch...)
					checkFailError(t, what, err, errDisk)
					if v != 0 || len(d.asked) != 1 || !strings.HasPrefix(d.asked[0], "Append ") {
						t.Fatalf("P12: %s: it answers %d, and the files were asked %q", what, v, d.asked)
					}
					checkStopped(t, what, s, d, want)
					checkBegun(t, what, d, c, batch, part-1)
				}
			}
		}
	}
}

func TestTheSyncingFails(t *testing.T) {
	for _, c := range starts() {
		for _, batch := range batches() {
			for mode := range 8 {
				what := fmt.Sprintf("%s: Append(%q) fails, mode %d", c.what, batch, mode)
				s, d := openStart(t, c)
				want := all(s)
				d.fault, d.done, d.part = failing(2, mode&1 != 0), mode&2 != 0, mode/4*30
				v, err := s.Append("f", api.Any, batch...)
				checkFailError(t, what, err, errDisk)
				if v != 0 || len(d.asked) != 2 || !strings.HasPrefix(d.asked[1], "Sync ") {
					t.Fatalf("P12: %s: it answers %d, and the files were asked %q", what, v, d.asked)
				}
				checkStopped(t, what, s, d, want)
				checkBegun(t, what, d, c, batch, 1000)
			}
		}
	}
}

// A store that has appended fails as one does that was just opened.
func TestAStoreFailsLate(t *testing.T) {
	for n := range 12 {
		for at := 1; at <= 2; at++ {
			d := diskOf(nil)
			s := mustOpen(t, d)
			m := modelOf(nil)
			for range n {
				mustAppend(t, s, d, m, "f", api.Any, "x", "y")
			}
			what := fmt.Sprintf("call %d fails behind %d batches", at, n)
			files := maps.Clone(m.files)
			d.asked, d.fault = nil, failing(at, false)
			_, err := s.Append("f", api.Any, "last")
			checkFailError(t, what, err, errDisk)
			checkStopped(t, what, s, d, m.events)
			fresh := n == 0 || len(files[m.last]) >= 160
			checkBegun(t, what, d, start{what, files, fresh}, []string{"last"}, 1000*(at-1)-1)
		}
	}
}

// filesErrors is errors of any kind that files can answer.
func filesErrors() []error {
	return []error{
		errDisk, api.ErrClosed, api.ErrFailed, api.ErrStream, api.ErrBatch, &api.FailError{Err: errDisk}, &api.VersionError{},
		(*ownError)(nil), (*api.FailError)(nil), errors.Join(errDisk, api.ErrData),
	}
}

func TestAppendTellsAnyErrorOfTheFiles(t *testing.T) {
	for _, want := range filesErrors() {
		for at := 1; at <= 2; at++ {
			for _, c := range starts() {
				s, d := openStart(t, c)
				before := all(s)
				d.fault = func(call int) error {
					if call == at {
						return want
					}
					return nil
				}
				what := fmt.Sprintf("%s: call %d answers %#v", c.what, at, want)
				v, err := s.Append("f", api.Any, "x")
				if v != 0 {
					t.Errorf("P1: %s: Append answers %d with an error", what, v)
				}
				checkFailError(t, what, err, want)
				checkStopped(t, what, s, d, before)
			}
		}
	}
}

func TestAppendTellsAnErrorThatCannotBeCompared(t *testing.T) {
	for at := 1; at <= 2; at++ {
		s, d := openStart(t, starts()[at])
		d.fault = func(call int) error {
			if call == at {
				return listError{"the", "disk"}
			}
			return nil
		}
		v, err := s.Append("f", api.Any, "x")
		var inner listError
		if v != 0 || !errors.As(err, &inner) || !slices.Equal(inner, listError{"the", "disk"}) || !errors.Is(err, api.ErrFailed) {
			t.Errorf("P6: call %d: Append = %d, %#v", at, v, err)
		}
	}
}

func TestAppendCatchesFilesThatPanic(t *testing.T) {
	for _, c := range starts() {
		for at := 1; at <= 2; at++ {
			s, d := openStart(t, c)
			want := all(s)
			d.fault = func(call int) error {
				if call == at {
					panic("the disk")
				}
				return nil
			}
			if v, err := s.Append("f", api.Any, "1"); v != 0 || !errors.Is(err, api.ErrFailed) {
				t.Errorf("P1: %s: call %d panics: Append = %d, %v", c.what, at, v, err)
			}
			checkStopped(t, fmt.Sprint("panic at ", at), s, d, want)
		}
	}
}

// What comes out beside an error does not matter: neither a list nor bytes.
func TestOpenTakesNothingBesideAnError(t *testing.T) {
	whole := untidy()
	for _, list := range [][]string{nil, {}, {seg0}, {seg0, seg2}, {seg3, "other"}, slices.Collect(maps.Keys(whole))} {
		d := diskOf(whole)
		s, err := journal.Open(odd{d, list, errDisk, d.Read})
		checkFailed(t, fmt.Sprintf("Names answers %q and an error", list), s, err, errDisk)
		if d.asked != nil || !maps.Equal(d.now(), whole) {
			t.Errorf("P6: behind the error Open did %q", d.asked)
		}
	}
	for _, failed := range []string{seg0, seg2} {
		for _, give := range []string{"", head(0), head(0) + recA1, whole[failed], whole[failed] + "more", "noise"} {
			d := diskOf(whole)
			s, err := journal.Open(odd{d, slices.Collect(maps.Keys(whole)), nil, func(name string) ([]byte, error) {
				if name == failed {
					return []byte(give), errDisk
				}
				return d.Read(name)
			}})
			checkFailed(t, fmt.Sprintf("Read of %q answers %q and an error", failed, give), s, err, errDisk)
			if len(d.changes()) != 0 || !maps.Equal(d.now(), whole) {
				t.Errorf("P8: behind the error Open did %q", d.changes())
			}
		}
	}
}
