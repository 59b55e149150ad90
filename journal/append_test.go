package journal_test

import (
	"bytes"
	"fmt"
	"maps"
	"math"
	"slices"
	"strings"
	"testing"
	"unsafe"

	"journal/api"
	"journal/journal"
)

// model is what a log and its files must be, as the document tells it.
type model struct {
	files    map[string]string
	last     string // the name of the last segment
	events   []api.Event
	versions map[string]int64
}

// modelOf is the model of files that Open has nothing to mend in.
func modelOf(files map[string]string) *model {
	m := &model{files: map[string]string{}, versions: map[string]int64{}}
	maps.Copy(m.files, files)
	events, good := logOf(files)
	m.events = events
	for _, e := range events {
		m.versions[e.Stream]++
	}
	for name := range good {
		m.last = max(m.last, name)
	}
	return m
}

// put has a batch appended, and tells whether it goes into a new segment.
func (m *model) put(stream string, data ...string) bool {
	fresh := m.last == "" || len(m.files[m.last]) >= 160
	if fresh {
		m.last = fmt.Sprintf("seg-%08d", len(m.events))
		m.files[m.last] = head(uint64(len(m.events)))
	}
	for _, d := range data {
		m.versions[stream]++
		e := event(stream, m.versions[stream], int64(len(m.events)), d)
		m.events = append(m.events, e)
		m.files[m.last] += record(stream, e.Version, e.Position, d)
	}
	return fresh
}

// check: the store tells the model's log, and the files are the model's, all of them safe.
func (m *model) check(t *testing.T, what string, s *journal.Store, d *disk) {
	t.Helper()
	if got := all(s); !slices.Equal(got, m.events) {
		t.Fatalf("P11: %s: All tells %q, want %q", what, text(got), text(m.events))
	}
	for stream, want := range m.versions {
		if got := s.Version(stream); got != want {
			t.Fatalf("P9: %s: the version of %q is %d, want %d", what, stream, got, want)
		}
	}
	if got := d.now(); !maps.Equal(got, m.files) {
		t.Fatalf("P11: %s: the files are %q, want %q", what, got, m.files)
	}
	for name, f := range d.files {
		if !f.made || f.safe != f.now {
			t.Fatalf("P11: %s: of %q %q is safe, want %q", what, name, f.safe, f.now)
		}
	}
}

// checkCalls: no segment but that one was changed, and it was synced behind all of it, once, and once more if it is new.
func checkCalls(t *testing.T, what string, asked []string, segment string, fresh bool) {
	t.Helper()
	syncs := 0
	for _, call := range asked {
		switch call {
		case "Append " + segment:
		case "Sync " + segment:
			syncs++
		default:
			t.Errorf("P11: %s: the files were asked %q", what, asked)
		}
	}
	if syncs > 2 || syncs > 1 && !fresh || len(asked) == 0 || asked[len(asked)-1] != "Sync "+segment {
		t.Errorf("P11: %s: the files were asked %q", what, asked)
	}
}

// mustAppend appends by the store and by the model, and holds them against each other.
func mustAppend(t *testing.T, s *journal.Store, d *disk, m *model, stream string, expect int64, data ...string) {
	t.Helper()
	what := fmt.Sprintf("Append(%q, %d, %q) at the position %d", stream, expect, data, len(m.events))
	d.asked = nil
	got, err := s.Append(stream, expect, data...)
	asked := d.asked
	fresh := m.put(stream, data...)
	if err != nil || got != m.versions[stream] {
		t.Fatalf("P11: %s = %d, %v, want %d", what, got, err, m.versions[stream])
	}
	checkCalls(t, what, asked, m.last, fresh)
	m.check(t, what, s, d)
}

func TestAppendOfTheExample(t *testing.T) {
	d := diskOf(nil)
	s := mustOpen(t, d)
	check := func(stream string, expect int64, want int64, data ...string) {
		t.Helper()
		if got, err := s.Append(stream, expect, data...); got != want || err != nil {
			t.Errorf("P11: Append(%q, %d, %q) = %d, %v, want %d", stream, expect, data, got, err, want)
		}
	}
	check("a", api.New, 2, "x", "y")
	got, err := s.Append("a", 1, "z")
	if e, ok := err.(*api.VersionError); got != 0 || !ok || *e != (api.VersionError{Stream: "a", Want: 1, Have: 2}) {
		t.Errorf("P10: Append(a, 1, z) = %d, %#v", got, err)
	}
	check("a", 2, 3, "z")
	check("b", api.Any, 1, "q")
	if got := text(all(s)); got != "0:a1=x 1:a2=y 2:a3=z 3:b1=q" {
		t.Errorf("P11: All tells %q", got)
	}
	if got := pairs(t, s.Read("a", 2), 0); !slices.Equal(got, []string{"2=y", "3=z"}) {
		t.Errorf("P11: Read(a, 2) tells %q", got)
	}
}

// appendError is what Append must answer (nil: the batch is appended); the order is the document's.
func appendError(closed, failed bool, stream string, expect, have int64, data []string) error {
	long := func(d string) bool { return len(d) > 24 }
	switch {
	case closed:
		return api.ErrClosed
	case len(stream) < 1 || len(stream) > 12:
		return api.ErrStream
	case len(data) < 1 || len(data) > 4:
		return api.ErrBatch
	case slices.ContainsFunc(data, long):
		return api.ErrData
	case failed:
		return api.ErrFailed
	case expect != -1 && expect != have:
		return &api.VersionError{Stream: stream, Want: expect, Have: have}
	}
	return nil
}

// sameError: both are the same error, or VersionErrors that tell the same.
func sameError(a, b error) bool {
	x, isX := a.(*api.VersionError)
	y, isY := b.(*api.VersionError)
	if isX && isY {
		return *x == *y
	}
	return !isX && !isY && a == b
}

// three is a store with a1 and a2 in a full segment, and a3 in the last one; failed: its files have answered an error.
func three(t *testing.T, failed bool) (*journal.Store, *disk) {
	t.Helper()
	long := strings.Repeat("l", 24)
	first := head(0) + record("a", 1, 0, long) + record("a", 2, 1, long) + record("twelve-bytes", 1, 2, long)
	d := diskOf(map[string]string{seg0: first, seg3: head(3) + record("a", 3, 3, "")})
	s := mustOpen(t, d)
	if failed {
		d.fault = func(int) error { return errDisk }
		s.Append("a", api.Any, "lost")
		d.fault = nil
	}
	return s, d
}

func TestAppendAnswersTheFirstError(t *testing.T) {
	fits, long := strings.Repeat("d", 24), strings.Repeat("d", 25)
	batches := [][]string{
		nil, {}, {""}, {"x"}, {fits}, {long}, {"", "", "", ""}, {fits, fits, fits, fits}, {"", "", "", "", ""}, {long, "", "", "", ""},
		{long, "x"}, {"x", long}, {long, "", "", ""}, {"", "", "", long}, {"", long, "", ""}, slices.Repeat([]string{long}, 300),
	}
	streams := []string{"", "a", "b", "\x00", "twelve-bytes", "elevenbytes", "thirteen-byte", strings.Repeat("s", 256), strings.Repeat("s", 257)}
	expects := []int64{api.Any, api.New, 1, 2, 3, 4, -2, -3, math.MinInt64, math.MaxInt64, 1 << 32, 1<<32 + 3, -1 << 32}
	for state := range 4 {
		closed, failed := state&1 != 0, state&2 != 0
		for _, stream := range streams {
			for _, expect := range expects {
				s, d := three(t, failed)
				have := s.Version(stream)
				if closed {
					s.Close()
				}
				before, told, asked := d.now(), all(s), len(d.asked)
				for _, data := range batches {
					want := appendError(closed, failed, stream, expect, have, data)
					if want == nil {
						continue
					}
					got, err := s.Append(stream, expect, data...)
					if got != 0 || !sameError(err, want) {
						t.Errorf("P10: state %d: Append(%q, %d, %q) = %d, %v, want %v", state, stream, expect, data, got, err, want)
					}
				}
				if len(d.asked) != asked || !maps.Equal(d.now(), before) || !slices.Equal(all(s), told) {
					t.Errorf("P10: state %d: with an error the files were asked %q", state, d.asked[asked:])
				}
			}
		}
	}
}

func TestAppendTakesWhatIsExpected(t *testing.T) {
	fits := strings.Repeat("d", 24)
	for stream, have := range map[string]int64{"a": 3, "b": 0, "twelve-bytes": 1, "TWELVE-BYTES": 0, "\xff\x00": 0, "elevenbytes": 0} {
		for _, expect := range []int64{api.Any, have} {
			for _, data := range [][]string{{""}, {"x"}, {fits}, {"", ""}, {"x", "y", ""}, {fits, fits, fits, fits}} {
				s, d := three(t, false)
				mustAppend(t, s, d, modelOf(d.now()), stream, expect, data...)
				if got := s.Version(stream); got != have+int64(len(data)) {
					t.Errorf("P9: the version of %q is %d behind %d events", stream, got, len(data))
				}
			}
		}
	}
}

func TestAppendGoesOnWithTheLog(t *testing.T) {
	d := diskOf(map[string]string{"other": "o"})
	s := mustOpen(t, d)
	m := modelOf(d.now())
	b := noise(7, 2000)
	for i := range 250 {
		stream := string(rune('a' + b[i]%5))
		data := make([]string, b[i+1]%4+1)
		for k := range data {
			data[k] = string(noise(uint32(i+k), int(b[i+k+2])%25))
		}
		expect := api.Any
		if b[i+500]%2 == 0 {
			expect = m.versions[stream]
		}
		mustAppend(t, s, d, m, stream, expect, data...)
		if i%50 == 49 {
			if err := s.Close(); err != nil {
				t.Fatalf("P13: Close = %v", err)
			}
			s = mustOpen(t, d)
			m.check(t, "opened anew", s, d)
		}
	}
	if len(m.files) < 50 {
		t.Errorf("there are only %d files", len(m.files))
	}
}

// filled is records of the stream f from the position 0 on, of n bytes with a head ahead of them.
func filled(n int) string {
	segment := head(0)
	for i := int64(0); len(segment) < n; i++ {
		left := n - len(segment)
		size := min(left, 50)
		if left > 50 && left < 76 {
			size = left - 26
		}
		segment += record("f", i+1, i, strings.Repeat("-", size-26))
	}
	return segment
}

// The edge stands at 160 bytes, whether the bytes were found or appended, and whatever the batch comes to.
func TestAppendToASegmentOfAnySize(t *testing.T) {
	long := strings.Repeat("l", 24)
	for _, size := range []int{16, 42, 66, 94, 118, 144, 157, 158, 159, 160, 161, 162, 186, 400, 5000} {
		segment := filled(size)
		if len(segment) != size {
			t.Fatalf("the tests' own segment has %d bytes, want %d", len(segment), size)
		}
		for _, batch := range [][]string{{""}, {long, long, long, long}} {
			for what, tail := range map[string]string{"found": "", "found and cut": "!", "found, and much of it cut": strings.Repeat("\x00", 200)} {
				d := diskOf(map[string]string{seg0: segment + tail})
				s := mustOpen(t, d)
				m := modelOf(d.now())
				if fresh := modelOf(d.now()).put("s", batch...); fresh != (size >= 160) {
					t.Fatalf("the tests' own model makes a new segment behind %d bytes: %v", size, fresh)
				}
				d.asked = []string{what}
				mustAppend(t, s, d, m, "s", api.New, batch...)
				mustAppend(t, s, d, m, "s", api.Any, batch...)
			}
			events, _ := logOf(map[string]string{seg0: segment})
			d := diskOf(nil)
			s := mustOpen(t, d)
			m := modelOf(nil)
			for _, e := range events {
				mustAppend(t, s, d, m, e.Stream, api.Any, e.Data)
			}
			mustAppend(t, s, d, m, "s", api.New, batch...)
			mustAppend(t, s, d, m, "s", api.Any, batch...)
		}
	}
}

func TestAppendToASegmentWithoutARecord(t *testing.T) {
	full := filled(186)
	next := len(modelOf(map[string]string{seg0: full}).events)
	second := fmt.Sprintf("seg-%08d", next)
	for _, files := range []map[string]string{
		{seg0: head(0)}, {seg0: head(0) + "x"}, {seg0: full, second: head(uint64(next))}, {seg0: full, second: head(uint64(next)) + recA1},
	} {
		d := diskOf(files)
		s := mustOpen(t, d)
		m := modelOf(d.now())
		mustAppend(t, s, d, m, "s", api.New, "x", "y")
		if got := len(d.files); got != len(files) {
			t.Errorf("P11: there are %d files, were %d", got, len(files))
		}
	}
}

// A segment whose head is not right does not belong to the log: its name is free for a new one.
func TestAppendWhereAWrongSegmentStood(t *testing.T) {
	full := filled(186)
	next := fmt.Sprintf("seg-%08d", len(modelOf(map[string]string{seg0: full}).events))
	for _, files := range []map[string]string{{seg0: "JL1"}, {seg0: head(1) + recA1}, {seg0: ""}, {seg0: full, next: head(0)}, {seg0: full, next: ""}} {
		d := diskOf(files)
		s := mustOpen(t, d)
		m := modelOf(d.now())
		mustAppend(t, s, d, m, "s", api.New, "x", "y")
		mustAppend(t, s, d, m, "s", 2, "z")
	}
}

func TestNoSegmentWithoutABatch(t *testing.T) {
	for _, files := range []map[string]string{nil, {seg0: head(0)}, {seg0: filled(159)}, {seg0: filled(160)}, {seg0: filled(161)}} {
		d := diskOf(files)
		s := mustOpen(t, d)
		d.asked = nil
		s.Append("", api.Any, "x")
		s.Append("s", api.Any)
		s.Append("s", api.Any, strings.Repeat("l", 25))
		s.Append("s", 7, "x")
		if err := s.Close(); err != nil {
			t.Errorf("P13: Close = %v", err)
		}
		if d.asked != nil || !maps.Equal(d.now(), files) && len(d.files)+len(files) > 0 {
			t.Errorf("P11: a store that appends nothing did %q", d.asked)
		}
	}
}

// What is not yet safe is not told; and who reads does not wait for the files.
func TestAppendIsToldWhenItIsSafe(t *testing.T) {
	d := diskOf(nil)
	s := mustOpen(t, d)
	for i := range int64(12) {
		before := all(s)
		calls := 0
		d.behind = func() {
			calls++
			if got := all(s); !slices.Equal(got, before) {
				t.Errorf("P11: All tells %q ahead of the answer", text(got))
			}
			if got := s.Version("a"); got != 4*i {
				t.Errorf("P11: the version is %d ahead of the answer, want %d", got, 4*i)
			}
			if got := pairs(t, s.Read("a", 0), 0); int64(len(got)) != 4*i {
				t.Errorf("P11: Read tells %q ahead of the answer", got)
			}
		}
		if v, err := s.Append("a", 4*i, "1", "2", "3", "4"); v != 4*i+4 || err != nil || calls == 0 {
			t.Errorf("P11: Append = %d, %v", v, err)
		}
		if got := s.Version("a"); got != 4*i+4 {
			t.Errorf("P9: the version is %d, want %d", got, 4*i+4)
		}
	}
}

func TestIteratorsFromAheadOfAnAppend(t *testing.T) {
	s := mustOpen(t, diskOf(nil))
	everything, read, late := s.All(0), s.Read("a", 2), s.All(3)
	for i := range int64(5) {
		var wantAll, wantLate, wantRead []string
		for k := range i {
			wantAll = append(wantAll, fmt.Sprintf("%d:a%d=%d", k, k+1, k))
			if k >= 3 {
				wantLate = append(wantLate, wantAll[k])
			}
			if k >= 1 {
				wantRead = append(wantRead, fmt.Sprintf("%d=%d", k+1, k))
			}
		}
		if got := text(stopped(t, everything, 0)); got != strings.Join(wantAll, " ") {
			t.Errorf("P9: All(0) tells %q, want %q", got, wantAll)
		}
		if got := text(stopped(t, late, 0)); got != strings.Join(wantLate, " ") {
			t.Errorf("P9: All(3) tells %q, want %q", got, wantLate)
		}
		if got := pairs(t, read, 0); !slices.Equal(got, wantRead) {
			t.Errorf("P9: Read(a, 2) tells %q, want %q", got, wantRead)
		}
		if v, err := s.Append("a", i, fmt.Sprint(i)); v != i+1 || err != nil {
			t.Errorf("P11: Append = %d, %v", v, err)
		}
		if got := s.Version("a"); got != i+1 {
			t.Errorf("P9: the version is %d, want %d", got, i+1)
		}
	}
}

// The caller appends while it goes through: so often that the lists of the log must grow in the midst of it.
func TestAppendWithinTheGoingThrough(t *testing.T) {
	for _, first := range []int64{1, 2, 3, 4, 5, 8, 9} {
		s := mustOpen(t, diskOf(nil))
		for i := range first {
			s.Append("a", i, fmt.Sprint(i+1))
		}
		version := first
		more := func() {
			for range 5 {
				version++
				if v, err := s.Append("a", version-1, fmt.Sprint(version)); v != version || err != nil {
					t.Fatalf("P9: Append within the going through = %d, %v, want %d", v, err, version)
				}
				if got := s.Version("a"); got != version {
					t.Fatalf("P9: the version is %d within the going through, want %d", got, version)
				}
			}
		}
		for range 3 {
			n, want := int64(0), version
			for e := range s.All(0) {
				more()
				if n++; e != event("a", n, n-1, fmt.Sprint(n)) {
					t.Errorf("P9: All tells %+v as number %d", e, n)
				}
			}
			if n != want {
				t.Errorf("P9: All told %d events, want the %d of when it began", n, want)
			}
			n, want = 0, version
			for v, data := range s.Read("a", 0) {
				more()
				if n++; v != n || data != fmt.Sprint(n) {
					t.Errorf("P9: Read tells %d %q as number %d", v, data, n)
				}
				if n == 10 {
					break
				}
			}
			if n != min(want, 10) {
				t.Errorf("P9: Read told %d events, want %d", n, min(want, 10))
			}
		}
	}
}

// loose is a text whose bytes can be changed behind its back.
func loose(text string) (string, []byte) {
	b := []byte(text)
	return unsafe.String(unsafe.SliceData(b), len(b)), b
}

func TestAppendKeepsNothing(t *testing.T) {
	d := diskOf(nil)
	s := mustOpen(t, d)
	stream, streamBytes := loose("stream")
	first, firstBytes := loose("first")
	second, secondBytes := loose("second")
	list := append(make([]string, 0, 4), first, second)
	if v, err := s.Append(stream, api.New, list...); v != 2 || err != nil {
		t.Fatalf("P11: Append = %d, %v", v, err)
	}
	if !slices.Equal(list, []string{"first", "second"}) || list[:4][2] != "" {
		t.Errorf("P2: the list became %q", list[:4])
	}
	_, err := s.Append(stream, api.New, "x")
	list[0], list[1] = "turned", "turned"
	for _, b := range [][]byte{streamBytes, firstBytes, secondBytes} {
		copy(b, bytes.Repeat([]byte("!"), len(b)))
	}
	if e, ok := err.(*api.VersionError); !ok || *e != (api.VersionError{Stream: "stream", Want: 0, Have: 2}) {
		t.Errorf("P2: the error became %v", err)
	}
	if got := text(all(s)); got != "0:stream1=first 1:stream2=second" {
		t.Errorf("P2: All tells %q", got)
	}
	if s.Version("stream") != 2 || s.Version("!!!!!!") != 0 {
		t.Errorf("P2: the versions are %d and %d", s.Version("stream"), s.Version("!!!!!!"))
	}
	if v, err := s.Append("stream", 2, "third"); v != 3 || err != nil {
		t.Errorf("P2: Append = %d, %v", v, err)
	}
	if got := pairs(t, s.Read("stream", 0), 0); !slices.Equal(got, []string{"1=first", "2=second", "3=third"}) {
		t.Errorf("P2: Read tells %q", got)
	}
}

func TestAnErrorOfAppendIsTheCallers(t *testing.T) {
	s := mustOpen(t, diskOf(nil))
	for range 3 {
		_, err := s.Append("a", 5, "x")
		e, ok := err.(*api.VersionError)
		if !ok || *e != (api.VersionError{Stream: "a", Want: 5, Have: 0}) {
			t.Fatalf("P2: the error is %#v", err)
		}
		*e = api.VersionError{Stream: "changed", Want: 1, Have: 1}
	}
}

// spoiler is files that keep what they are given, and write into it.
type spoiler struct {
	*disk
	got [][]byte
}

func (p *spoiler) Append(name string, b []byte) error {
	err := p.disk.Append(name, b)
	for _, before := range append(p.got, b) {
		before = before[:cap(before)]
		copy(before, bytes.Repeat([]byte("?"), len(before)))
	}
	p.got = append(p.got, b)
	return err
}

func TestAppendToFilesThatSpoilWhatTheyGet(t *testing.T) {
	d := diskOf(nil)
	s := mustOpen(t, &spoiler{disk: d})
	m := modelOf(nil)
	for range 20 {
		mustAppend(t, s, d, m, "a", api.Any, "x", "y")
	}
}
