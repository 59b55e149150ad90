package journal_test

import (
	"bytes"
	"encoding/hex"
	"errors"
	"fmt"
	"maps"
	"slices"
	"strings"
	"testing"

	"journal/api"
	"journal/journal"
	"journal/plain"
)

const (
	seg0 = "seg-00000000"
	seg1 = "seg-00000001"
	seg2 = "seg-00000002"
	seg3 = "seg-00000003"
)

// The records of a log: a1, a2, b1, a3.
var (
	recA1 = record("a", 1, 0, "x")
	recA2 = record("a", 2, 1, "y")
	recB1 = record("b", 1, 2, "z")
	recA3 = record("a", 3, 3, "")
)

type opening struct {
	what  string
	files map[string]string
	want  string         // the events
	stay  map[string]int // the files that stay, and how long they are
}

func openings() []opening {
	h0, h1, h2, h3 := head(0), head(1), head(2), head(3)
	two := h0 + recA1 + recA2
	wrongCheck := h0[:15] + string([]byte{h0[15] ^ 1})
	wrongMark := "JL2\n" + h0[4:]
	lateB1 := record("b", 1, 1, "late")
	return []opening{
		{"no files", nil, "", nil},
		{"other files alone", map[string]string{"other": "o", "": "e"}, "", map[string]int{"other": 1, "": 1}},
		{"no segment of the base 0", map[string]string{seg1: h1 + recA2, seg2: h2}, "", nil},
		{"a segment of the base 0 under another name", map[string]string{seg1: two}, "", nil},
		{"an empty segment", map[string]string{seg0: ""}, "", nil},
		{"a head that is short by one", map[string]string{seg0: h0[:15]}, "", nil},
		{"a head alone", map[string]string{seg0: h0}, "", map[string]int{seg0: 16}},
		{"a head with a wrong check", map[string]string{seg0: wrongCheck + recA1}, "", nil},
		{"a head with a wrong mark", map[string]string{seg0: wrongMark + recA1}, "", nil},
		{"a head with a wrong mark and the check of it", map[string]string{seg0: marked("JL2\n", 0) + recA1}, "", nil},
		{"a head of another base", map[string]string{seg0: h1 + recA1}, "", nil},
		{"a head of a great base", map[string]string{seg0: head(1<<63) + recA1}, "", nil},
		{"a record without a head", map[string]string{seg0: recA1}, "", nil},
		{"a wrong head, and a right segment of the base 1", map[string]string{seg0: wrongCheck + recA1, seg1: h1 + recA2}, "", nil},
		{"one record", map[string]string{seg0: h0 + recA1}, "0:a1=x", map[string]int{seg0: len(h0 + recA1)}},
		{"two records", map[string]string{seg0: two}, "0:a1=x 1:a2=y", map[string]int{seg0: len(two)}},
		{"a record that is short by one", map[string]string{seg0: two[:len(two)-1]}, "0:a1=x", map[string]int{seg0: len(h0 + recA1)}},
		{"a record of one byte", map[string]string{seg0: h0 + recA1 + recA2[:1]}, "0:a1=x", map[string]int{seg0: len(h0 + recA1)}},
		{"a record with a wrong check", map[string]string{seg0: h0 + recA1 + recA2[:len(recA2)-1] + "!"}, "0:a1=x", map[string]int{seg0: len(h0 + recA1)}},
		{"a record behind one that is Bad", map[string]string{seg0: h0 + recA1 + "\x00\x00\x00\x00\x00\x00\x00\x00" + recA2}, "0:a1=x", map[string]int{seg0: len(h0 + recA1)}},
		{"a first record that ends in its midst", map[string]string{seg0: h0 + recA1[:20]}, "", map[string]int{seg0: 16}},
		{"the first position is not 0", map[string]string{seg0: h0 + record("a", 1, 1, "")}, "", map[string]int{seg0: 16}},
		{"a position is told twice", map[string]string{seg0: h0 + recA1 + record("a", 2, 0, "")}, "0:a1=x", map[string]int{seg0: len(h0 + recA1)}},
		{"a position is left out", map[string]string{seg0: h0 + recA1 + record("a", 2, 2, "")}, "0:a1=x", map[string]int{seg0: len(h0 + recA1)}},
		{"the first version is not 1", map[string]string{seg0: h0 + record("a", 2, 0, "")}, "", map[string]int{seg0: 16}},
		{"a version is told twice", map[string]string{seg0: h0 + recA1 + record("a", 1, 1, "")}, "0:a1=x", map[string]int{seg0: len(h0 + recA1)}},
		{"a version is left out", map[string]string{seg0: h0 + recA1 + record("a", 3, 1, "")}, "0:a1=x", map[string]int{seg0: len(h0 + recA1)}},
		{"the version of another stream", map[string]string{seg0: h0 + recA1 + record("b", 2, 1, "")}, "0:a1=x", map[string]int{seg0: len(h0 + recA1)}},
		{"records in another order", map[string]string{seg0: h0 + recA2 + recA1}, "", map[string]int{seg0: 16}},
		{"a second segment", map[string]string{seg0: two, seg2: h2 + recB1}, "0:a1=x 1:a2=y 2:b1=z", map[string]int{seg0: len(two), seg2: len(h2 + recB1)}},
		{"a second and a third segment", map[string]string{seg0: two, seg2: h2 + recB1, seg3: h3 + recA3}, "0:a1=x 1:a2=y 2:b1=z 3:a3=", map[string]int{seg0: len(two), seg2: len(h2 + recB1), seg3: len(h3 + recA3)}},
		{"a second segment without a record", map[string]string{seg0: two, seg2: h2}, "0:a1=x 1:a2=y", map[string]int{seg0: len(two), seg2: 16}},
		{"a second segment without a record, and a third one", map[string]string{seg0: two, seg2: h2, seg3: h3 + recA3}, "0:a1=x 1:a2=y", map[string]int{seg0: len(two), seg2: 16}},
		{"a second segment that is cut, and a third one", map[string]string{seg0: two, seg2: h2 + recB1 + "!", seg3: h3 + recA3}, "0:a1=x 1:a2=y 2:b1=z", map[string]int{seg0: len(two), seg2: len(h2 + recB1)}},
		{"a second segment whose first record is wrong", map[string]string{seg0: two, seg2: h2 + recA3 + recB1}, "0:a1=x 1:a2=y", map[string]int{seg0: len(two), seg2: 16}},
		{"a byte behind the good length", map[string]string{seg0: two + "\x00", seg2: h2 + recB1}, "0:a1=x 1:a2=y", map[string]int{seg0: len(two)}},
		{"a record too many behind the good length", map[string]string{seg0: two + recA1, seg2: h2 + recB1}, "0:a1=x 1:a2=y", map[string]int{seg0: len(two)}},
		{"a second segment with a short head", map[string]string{seg0: two, seg2: h2[:15]}, "0:a1=x 1:a2=y", map[string]int{seg0: len(two)}},
		{"an empty second segment", map[string]string{seg0: two, seg2: ""}, "0:a1=x 1:a2=y", map[string]int{seg0: len(two)}},
		{"a second segment with a head of another base", map[string]string{seg0: two, seg2: h3 + recB1}, "0:a1=x 1:a2=y", map[string]int{seg0: len(two)}},
		{"a second segment with the head of the first", map[string]string{seg0: two, seg2: h0 + recB1}, "0:a1=x 1:a2=y", map[string]int{seg0: len(two)}},
		{"a base that is behind the next position", map[string]string{seg0: two, seg3: h3 + recB1}, "0:a1=x 1:a2=y", map[string]int{seg0: len(two)}},
		{"a base that is ahead of the next position", map[string]string{seg0: two, seg1: h1 + lateB1}, "0:a1=x 1:a2=y", map[string]int{seg0: len(two)}},
		{"a base that is the next position of what is cut off", map[string]string{seg0: two[:len(two)-1], seg2: h2 + recB1}, "0:a1=x", map[string]int{seg0: len(h0 + recA1)}},
		{"a base that is the next position where the first segment is cut", map[string]string{seg0: two[:len(two)-1], seg1: h1 + lateB1}, "0:a1=x", map[string]int{seg0: len(h0 + recA1)}},
		{"a first segment without a record, and others", map[string]string{seg0: h0, seg1: h1 + lateB1, "seg-99999999": head(99999999)}, "", map[string]int{seg0: 16}},
		{"names that look alike", map[string]string{
			seg0: h0, "seg-0000000": h0, "seg-000000000": h0, "seg-0000000x": "x", "seg-0000 001": "x", "seg--0000001": "x", "seg-+0000001": "x",
			"Seg-00000001": "x", "seg_00000001": "x", " seg-00000001": "x", "seg-00000001 ": "x", "seg-00000001\n": "x", "seg-": "x", "seg": "x", "xseg-00000001": "x",
			"seg-0000000\xff": "x", "seg-000000٣": "x", "seg-٠٠٠٠": "x", "00000001": "x", "dir/seg-00000001": "x", "seg-seg-00000001": "x", "seg-0000001/": "x", "seg-0000001:": "x", "seg-00000001": "gone", "seg-12345678": "gone", "seg-99999999": "gone",
		}, "", map[string]int{
			seg0: 16, "seg-0000000": 16, "seg-000000000": 16, "seg-0000000x": 1, "seg-0000 001": 1, "seg--0000001": 1, "seg-+0000001": 1,
			"Seg-00000001": 1, "seg_00000001": 1, " seg-00000001": 1, "seg-00000001 ": 1, "seg-00000001\n": 1, "seg-": 1, "seg": 1, "xseg-00000001": 1,
			"seg-0000000\xff": 1, "seg-000000٣": 1, "seg-٠٠٠٠": 1, "00000001": 1, "dir/seg-00000001": 1, "seg-seg-00000001": 1, "seg-0000001/": 1, "seg-0000001:": 1,
		}},
	}
}

// marked is a head with any mark and the check of it.
func marked(mark string, base uint64) string {
	b := []byte(mark + place(base, 0)[:8])
	return string(append(b, place(uint64(castagnoli(b)), 0)[:4]...))
}

// lengths is how long each file is.
func lengths(files map[string]string) map[string]int {
	l := map[string]int{}
	for name, text := range files {
		l[name] = len(text)
	}
	return l
}

func TestHeadOfTheExample(t *testing.T) {
	const want = "4a4c310a030000000000000090a60bfc"
	if got := hex.EncodeToString([]byte(head(3))); got != want {
		t.Fatalf("the tests' own head is %s, want %s", got, want)
	}
}

func TestOpenTellsTheLog(t *testing.T) {
	for _, c := range openings() {
		s := mustOpen(t, diskOf(c.files))
		if got := text(all(s)); got != c.want {
			t.Errorf("P7: %s: All tells %q, want %q", c.what, got, c.want)
		}
	}
}

func TestOpenLeavesTheLogAlone(t *testing.T) {
	for _, c := range openings() {
		d := diskOf(c.files)
		mustOpen(t, d)
		if got := lengths(d.now()); !maps.Equal(got, c.stay) {
			t.Errorf("P7: %s: the files are %v, want %v", c.what, got, c.stay)
		}
		for name, f := range d.files {
			if !strings.HasPrefix(c.files[name], f.now) {
				t.Errorf("P7: %s: %q is %x, was %x", c.what, name, f.now, c.files[name])
			}
			if f.safe != f.now {
				t.Errorf("P7: %s: %q is not safe", c.what, name)
			}
		}
		for _, what := range d.changes() {
			_, name, _ := strings.Cut(what, " ")
			if strings.HasPrefix(what, "Append ") || d.files[name] != nil && len(c.files[name]) == c.stay[name] {
				t.Errorf("P7: %s: Open did %q", c.what, what)
			}
		}
	}
}

func TestOpenChangesNothingTwice(t *testing.T) {
	for _, c := range openings() {
		d := diskOf(c.files)
		mustOpen(t, d)
		d.asked = nil
		before := d.now()
		s := mustOpen(t, d)
		if got := text(all(s)); got != c.want {
			t.Errorf("P7: %s: opened again, All tells %q, want %q", c.what, got, c.want)
		}
		if l := d.changes(); l != nil || !maps.Equal(d.now(), before) {
			t.Errorf("P7: %s: opened again, Open did %q", c.what, l)
		}
	}
}

func TestOpenMakesTheLastSegmentSafe(t *testing.T) {
	whole := map[string]string{seg0: head(0) + recA1 + recA2, seg2: head(2) + recB1}
	for what, tail := range map[string]string{"nothing to cut": "", "a byte to cut": "!"} {
		d := diskOf(whole)
		d.files[seg2] = &kept{now: whole[seg2] + tail}
		mustOpen(t, d)
		if f := d.files[seg2]; !f.made || f.safe != whole[seg2] {
			t.Errorf("P7: %s: of the last segment %x is safe, want %x", what, f.safe, whole[seg2])
		}
	}
}

func TestOpenWithoutALogSyncsNothing(t *testing.T) {
	d := diskOf(map[string]string{seg1: head(1), "other": "o"})
	mustOpen(t, d)
	if want := []string{"Names", "Remove " + seg1}; !slices.Equal(d.asked, want) {
		t.Errorf("P7: Open did %q, want %q", d.asked, want)
	}
}

func TestOpenOfALongLog(t *testing.T) {
	files := map[string]string{}
	var want []api.Event
	name := ""
	for i := range int64(1000) {
		if i%3 == 0 {
			name = fmt.Sprintf("seg-%08d", i)
			files[name] = head(uint64(i))
		}
		e := event(fmt.Sprint("s", i%7), i/7+1, i, fmt.Sprint(i))
		files[name] += string(mustFrame(t, e))
		want = append(want, e)
	}
	s := mustOpen(t, diskOf(files))
	if got := all(s); !slices.Equal(got, want) {
		t.Errorf("P7: All tells %d events, want %d", len(got), len(want))
	}
	if got := s.Version("s3"); got != 143 {
		t.Errorf("P9: the version is %d, want 143", got)
	}
}

// A segment may be longer than a store would make it.
func TestOpenOfALongSegment(t *testing.T) {
	segment := head(0)
	for i := range int64(500) {
		segment += record("s", i+1, i, strings.Repeat("d", 24))
	}
	d := diskOf(map[string]string{seg0: segment + segment})
	s := mustOpen(t, d)
	if got := s.Version("s"); got != 500 || d.files[seg0].now != segment {
		t.Errorf("P7: %d events in %d bytes, want 500 in %d", got, len(d.files[seg0].now), len(segment))
	}
}

func TestOpenOfNoFiles(t *testing.T) {
	if s, err := journal.Open(nil); s != nil || err != api.ErrFailed {
		t.Errorf("P7: Open(nil) = %v, %v", s, err)
	}
}

// checkFailed: the call has answered just this error in a FailError, and no store.
func checkFailed(t *testing.T, what string, s *journal.Store, err, want error) {
	t.Helper()
	if s != nil {
		t.Fatalf("P6: %s: Open = %v, %#v, want a *FailError alone", what, s, err)
	}
	checkFailError(t, what, err, want)
}

// A log with all that Open mends: each method that it uses is called.
func untidy() map[string]string {
	two := head(0) + recA1 + recA2
	return map[string]string{
		seg0: two, seg2: head(2) + recB1 + recA3[:9],
		seg1: head(1) + record("b", 1, 1, "wrong"), seg3: head(3) + recA3, "seg-00000007": head(7), "other": "o",
	}
}

func TestUntidyFilesNeedEachMethod(t *testing.T) {
	d := diskOf(untidy())
	mustOpen(t, d)
	got := map[string]int{}
	for _, what := range d.asked {
		method, _, _ := strings.Cut(what, " ")
		got[method]++
	}
	if want := map[string]int{"Names": 1, "Read": 2, "Remove": 3, "Cut": 1, "Sync": 1}; !maps.Equal(got, want) {
		t.Errorf("P7: Open did %v, want %v", got, want)
	}
}

// failing has the call at fail, once or with all behind it.
func failing(at int, dead bool) func(int) error {
	return func(call int) error {
		if call == at || dead && call > at {
			return errDisk
		}
		return nil
	}
}

func TestOpenFailsWithTheFiles(t *testing.T) {
	for _, c := range append(openings(), opening{what: "untidy files", files: untidy()}) {
		clean := diskOf(c.files)
		mustOpen(t, clean)
		want, _ := logOf(c.files)
		for mode := range 8 {
			for at := 1; at <= len(clean.asked); at++ {
				what := fmt.Sprintf("%s: call %d (%s) fails, mode %d", c.what, at, clean.asked[at-1], mode)
				d := diskOf(c.files)
				d.fault, d.done, d.part = failing(at, mode&1 != 0), mode&2 != 0, mode/4*3
				s, err := journal.Open(d)
				checkFailed(t, what, s, err, errDisk)
				for _, files := range append(d.crashes(), d.now()) {
					if got, _ := logOf(files); !slices.Equal(got, want) {
						t.Errorf("P8: %s: the log is %q, was %q", what, text(got), text(want))
					}
				}
				d.fault = nil
				if got := all(mustOpen(t, d)); !slices.Equal(got, want) {
					t.Errorf("P8: %s: opened anew, All tells %q, want %q", what, text(got), text(want))
				}
			}
		}
	}
}

func TestPowerFailsWithinOpen(t *testing.T) {
	for _, c := range append(openings(), opening{what: "untidy files", files: untidy()}) {
		want, _ := logOf(c.files)
		d := diskOf(c.files)
		d.behind = func() {
			for _, files := range d.crashes() {
				if got, _ := logOf(files); !slices.Equal(got, want) {
					t.Errorf("P8: %s: behind %q the log is %q, was %q", c.what, d.asked, text(got), text(want))
				}
			}
		}
		mustOpen(t, d)
	}
}

// However often Open fails and is tried again, the files hold the same log.
func TestOpenFailsAgainAndAgain(t *testing.T) {
	d := diskOf(untidy())
	want, _ := logOf(untidy())
	for i := range 20 {
		d.asked, d.fault, d.done = nil, failing(1+i%4, true), i%3 == 0
		s, err := journal.Open(d)
		checkFailed(t, fmt.Sprint("try ", i), s, err, errDisk)
		if got, _ := logOf(d.now()); !slices.Equal(got, want) {
			t.Fatalf("P8: try %d: the log is %q, was %q", i, text(got), text(want))
		}
	}
	d.fault = nil
	if got := all(mustOpen(t, d)); !slices.Equal(got, want) {
		t.Errorf("P8: All tells %q, want %q", text(got), text(want))
	}
}

type listError []string

func (e listError) Error() string { return strings.Join(e, "") }

type ownError struct{}

func (e *ownError) Error() string { return "own" }

func TestOpenTellsAnyErrorOfTheFiles(t *testing.T) {
	for _, want := range filesErrors() {
		for at := 1; at <= 8; at++ {
			d := diskOf(untidy())
			d.fault = func(call int) error {
				if call == at {
					return want
				}
				return nil
			}
			s, err := journal.Open(d)
			checkFailed(t, fmt.Sprintf("call %d answers %#v", at, want), s, err, want)
		}
	}
}

func TestOpenTellsAnErrorThatCannotBeCompared(t *testing.T) {
	for at := 1; at <= 8; at++ {
		d := diskOf(untidy())
		d.fault = func(call int) error {
			if call == at {
				return listError{"the", "disk"}
			}
			return nil
		}
		s, err := journal.Open(d)
		var inner listError
		if s != nil || !errors.As(err, &inner) || !errors.Is(err, api.ErrFailed) {
			t.Errorf("P6: call %d: Open = %v, %#v", at, s, err)
		}
	}
}

func TestOpenCatchesFilesThatPanic(t *testing.T) {
	for at := 1; at <= 8; at++ {
		d := diskOf(untidy())
		d.fault = func(call int) error {
			if call == at {
				panic("the disk")
			}
			return nil
		}
		s, err := journal.Open(d)
		if s != nil || !errors.Is(err, api.ErrFailed) {
			t.Errorf("P1: call %d panics: Open = %v, %v", at, s, err)
		}
	}
	if s, err := journal.Open((*disk)(nil)); s != nil || !errors.Is(err, api.ErrFailed) {
		t.Errorf("P1: Open of a nil disk = %v, %v", s, err)
	}
	if s, told := plain.Open(nil); s != nil || told.Err == plain.Fine || told.Err == plain.Strange {
		t.Errorf("P1: Open of plain's nil disk = %v, %+v", s, told)
	}
}

// odd is files that name what they like and give what they like.
type odd struct {
	*disk
	list []string
	err  error // is told with the list
	give func(name string) ([]byte, error)
}

func (o odd) Names() ([]string, error) { return o.list, o.err }

func (o odd) Read(name string) ([]byte, error) { return o.give(name) }

func TestOpenTakesNamesAsTheyCome(t *testing.T) {
	list := []string{seg3, "other", seg0, seg3, seg0, "", seg2, seg0, "other", seg3}
	room := append(slices.Clone(list), "room", "room")
	d := diskOf(map[string]string{seg0: head(0) + recA1 + recA2, seg2: head(2) + recB1[:5], seg3: ""})
	s := mustOpen(t, odd{d, room[:len(list)], nil, d.Read})
	if got := text(all(s)); got != "0:a1=x 1:a2=y" {
		t.Errorf("P7: All tells %q", got)
	}
	if !slices.Equal(room[:len(list)], list) || room[len(list)] != "room" {
		t.Errorf("P2: the names became %q", room)
	}
	want := []string{"Read " + seg0, "Read " + seg2, "Remove " + seg3, "Cut " + seg2, "Sync " + seg2}
	if !slices.Equal(d.asked, want) {
		t.Errorf("P7: Open did %q, want %q", d.asked, want)
	}
}

func TestOpenOfFilesThatTellAnything(t *testing.T) {
	for seed := range uint32(2000) {
		d := diskOf(nil)
		give := func(name string) ([]byte, error) {
			b := noise(seed, int(seed%300))
			if seed%3 > 0 {
				b = append([]byte(head(0)), b...)
			}
			if seed%2 == 0 {
				return nil, nil
			}
			return b, nil
		}
		s, err := journal.Open(odd{d, []string{seg0, seg1, seg2}, nil, give})
		if err != nil || len(all(s)) != 0 {
			t.Fatalf("P1: Open over noise = %v, %v", s, err)
		}
		s.Close()
	}
}

// pieces is files that are put together of right and wrong pieces, by a seed.
func pieces(seed uint32) map[string]string {
	b := noise(seed, 60)
	files := map[string]string{}
	position := int64(0)
	versions := map[string]int64{}
	for i := 0; i < 50; {
		name := fmt.Sprintf("seg-%08d", position+int64(b[i]/250))
		segment := head(uint64(position))
		for n := b[i+1] % 4; n > 0 && i < 50; n-- {
			stream := string(rune('a' + b[i+2]%3))
			versions[stream]++
			segment += record(stream, versions[stream]+int64(b[i+3]/245), position+int64(b[i+4]/245), string(b[i:i+int(b[i+2]%5)]))
			position++
			i += 3
		}
		switch i += 2; b[i] % 24 {
		case 0:
			segment = segment[:len(segment)-1]
		case 1:
			segment += "!"
		case 2:
			segment = segment[:int(b[i+1])%len(segment)]
		case 3:
			at := int(b[i+1]) % len(segment)
			segment = segment[:at] + string([]byte{segment[at] ^ 4}) + segment[at+1:]
		case 4:
			name += "x"
		}
		files[name] = segment
	}
	return files
}

func TestOpenOfAnyPieces(t *testing.T) {
	events, segments, cuts := 0, 0, 0
	for seed := range uint32(5000) {
		files := pieces(seed)
		want, good := logOf(files)
		for name := range files {
			if len(name) != len(seg0) {
				good[name] = len(files[name])
			}
		}
		d := diskOf(files)
		s, err := journal.Open(d)
		if err != nil || !slices.Equal(all(s), want) {
			t.Fatalf("P7: seed %d: Open over %q: %v, want %q", seed, files, err, text(want))
		}
		if got := lengths(d.now()); !maps.Equal(got, good) {
			t.Fatalf("P7: seed %d: the files are %v, want %v", seed, got, good)
		}
		s.Close()
		events, segments = max(events, len(want)), max(segments, len(good))
		if slices.ContainsFunc(d.asked, func(what string) bool { return strings.HasPrefix(what, "Cut ") }) {
			cuts++
		}
	}
	if events < 10 || segments < 6 || cuts < 500 {
		t.Errorf("the pieces do not reach far: %d events, %d segments, %d cuts", events, segments, cuts)
	}
}

func TestOpenLeavesWhatReadGave(t *testing.T) {
	for _, c := range append(openings(), opening{what: "untidy files", files: untidy()}) {
		d := diskOf(c.files)
		s := mustOpen(t, d)
		want, _ := logOf(c.files)
		for i, b := range d.gave {
			if !bytes.Equal(b, d.copies[i]) {
				t.Errorf("P2: %s: what Read gave became %x, was %x", c.what, b, d.copies[i])
			}
			clear(b)
		}
		if got := all(s); !slices.Equal(got, want) {
			t.Errorf("P2: %s: All tells %q when what Read gave is changed, want %q", c.what, text(got), text(want))
		}
	}
}
