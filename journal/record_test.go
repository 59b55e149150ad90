package journal_test

import (
	"bytes"
	"encoding/binary"
	"encoding/hex"
	"hash/crc32"
	"math"
	"strings"
	"testing"

	"journal/api"
	"journal/journal"
)

const example = "14000000e2992d5c0173010000000000000000000000000000006869"

func event(stream string, version, position int64, data string) api.Event {
	return api.Event{Place: api.Place{Version: version, Position: position}, Stream: stream, Data: data}
}

func castagnoli(b []byte) uint32 {
	return crc32.Checksum(b, crc32.MakeTable(crc32.Castagnoli))
}

// sealed is a payload, right or not, behind its length and its right check.
func sealed(payload string) []byte {
	b := binary.LittleEndian.AppendUint32(nil, uint32(len(payload)))
	b = binary.LittleEndian.AppendUint32(b, castagnoli([]byte(payload)))
	return append(b, payload...)
}

// place is a version and a position as they stand in a payload.
func place(version, position uint64) string {
	b := binary.LittleEndian.AppendUint64(nil, version)
	return string(binary.LittleEndian.AppendUint64(b, position))
}

// named is a payload whose name's length is told as it is.
func named(name, place, data string) string {
	return string([]byte{byte(len(name))}) + name + place + data
}

// told is a payload's length with a check of noughts and n noughts behind it.
func told(length uint32, n int) []byte {
	return append(binary.LittleEndian.AppendUint32(nil, length), make([]byte, 4+n)...)
}

// noise is n bytes that differ with the seed and are the same at each run.
func noise(seed uint32, n int) []byte {
	b := make([]byte, n)
	for i := range b {
		seed = seed*1664525 + 1013904223
		b[i] = byte(seed >> 24)
	}
	return b
}

func mustFrame(t *testing.T, e api.Event) []byte {
	t.Helper()
	b, err := journal.Frame(e)
	if err != nil {
		t.Fatalf("Frame(%#v): %v", e, err)
	}
	return b
}

// checkVerdict: the verdict is v, and nothing stands beside Short and Bad.
func checkVerdict(t *testing.T, what string, b []byte, v api.Verdict) {
	t.Helper()
	e, n, got := journal.Parse(b)
	if got != v {
		t.Errorf("P5: %s: Parse(%x) is %d, want %d", what, b, got, v)
	}
	if got != api.Whole && (e != api.Event{} || n != 0) {
		t.Errorf("P1, P5: %s: Parse(%x) tells %#v, %d beside %d", what, b, e, n, got)
	}
}

func TestSumOfKnownBytes(t *testing.T) {
	for _, c := range []struct {
		text string
		want uint32
	}{
		{"", 0},
		{"a", 0xC1D04330},
		{"123456789", 0xE3069283},
		{strings.Repeat("\x00", 32), 0x8A9136AA},
		{strings.Repeat("\xff", 32), 0x62A8AB43},
	} {
		if got := journal.Sum([]byte(c.text)); got != c.want {
			t.Errorf("P3: Sum(%q) = %#x, want %#x", c.text, got, c.want)
		}
	}
	if got := journal.Sum(nil); got != 0 {
		t.Errorf("P3: Sum(nil) = %#x, want 0", got)
	}
}

func TestSumOfEachByte(t *testing.T) {
	for i := range 256 {
		b := []byte{byte(i)}
		if got, want := journal.Sum(b), castagnoli(b); got != want {
			t.Errorf("P3: Sum(%x) = %#x, want %#x", b, got, want)
		}
	}
}

func TestSumOfLongerBytes(t *testing.T) {
	for _, n := range []int{2, 3, 4, 5, 7, 8, 9, 53, 255, 256, 257, 4096, 100_003} {
		b := noise(uint32(n), n)
		if got, want := journal.Sum(b), castagnoli(b); got != want {
			t.Errorf("P3: Sum of %d bytes = %#x, want %#x", n, got, want)
		}
	}
}

func TestFrameOfTheExample(t *testing.T) {
	if got := hex.EncodeToString(mustFrame(t, event("s", 1, 0, "hi"))); got != example {
		t.Errorf("P4: the record is %s, want %s", got, example)
	}
}

func TestFrameWritesTheLayout(t *testing.T) {
	for _, c := range []struct {
		stream, data      string
		version, position int64
	}{
		{"s", "", 1, 0},
		{"twelve-bytes", strings.Repeat("d", 24), math.MaxInt64, math.MaxInt64},
		{"\x00", "\x00\xff", 256, 70_000},
		{"\xff\xfe", "\n", 0x0102030405060708, 0x1112131415161718},
		{"häuser", "größe", 2, 1},
	} {
		got := mustFrame(t, event(c.stream, c.version, c.position, c.data))
		want := sealed(named(c.stream, place(uint64(c.version), uint64(c.position)), c.data))
		if !bytes.Equal(got, want) {
			t.Errorf("P4: the record of %#v is %x, want %x", c, got, want)
		}
	}
}

func TestFrameErrorsAndTheirOrder(t *testing.T) {
	long := strings.Repeat("d", 25)
	for _, c := range []struct {
		what string
		e    api.Event
		want error
	}{
		{"a name of 0 bytes", event("", 1, 0, ""), api.ErrStream},
		{"a name of 1 byte", event("s", 1, 0, ""), nil},
		{"a name of 12 bytes", event("twelve-bytes", 1, 0, ""), nil},
		{"a name of 13 bytes", event("thirteen-byte", 1, 0, ""), api.ErrStream},
		{"a name of 12 bytes in 6 runes", event("ääääää", 1, 0, ""), nil},
		{"a name of 14 bytes in 7 runes", event("äääääää", 1, 0, ""), api.ErrStream},
		{"a name of 257 bytes", event(strings.Repeat("s", 257), 1, 0, ""), api.ErrStream},
		{"a very long name", event(strings.Repeat("s", 1<<20), 1, 0, ""), api.ErrStream},
		{"data of 24 bytes", event("s", 1, 0, long[:24]), nil},
		{"data of 25 bytes", event("s", 1, 0, long), api.ErrData},
		{"data of 26 bytes in 13 runes", event("s", 1, 0, strings.Repeat("ä", 13)), api.ErrData},
		{"very long data", event("s", 1, 0, strings.Repeat("d", 1<<20)), api.ErrData},
		{"version 1", event("s", 1, 0, ""), nil},
		{"version 0", event("s", 0, 0, ""), api.ErrBatch},
		{"version -1", event("s", -1, 0, ""), api.ErrBatch},
		{"the least version", event("s", math.MinInt64, 0, ""), api.ErrBatch},
		{"the greatest version", event("s", math.MaxInt64, 0, ""), nil},
		{"position -1", event("s", 1, -1, ""), api.ErrBatch},
		{"the least position", event("s", 1, math.MinInt64, ""), api.ErrBatch},
		{"the greatest position", event("s", 1, math.MaxInt64, ""), nil},
		{"version and position", event("s", 0, -1, ""), api.ErrBatch},
		{"name and data", event("", 1, 0, long), api.ErrStream},
		{"name and version", event("thirteen-byte", 0, 0, ""), api.ErrStream},
		{"name and position", event("", 1, -1, ""), api.ErrStream},
		{"data and version", event("s", 0, 0, long), api.ErrData},
		{"data and position", event("s", 1, -1, long), api.ErrData},
		{"all of them", event("", 0, -1, long), api.ErrStream},
		{"no event", api.Event{}, api.ErrStream},
	} {
		b, err := journal.Frame(c.e)
		if err != c.want {
			t.Errorf("P1, P4: %s: the error is %v, want %v", c.what, err, c.want)
		}
		if (len(b) == 0) != (c.want != nil) {
			t.Errorf("P1, P4: %s: %d bytes beside the error %v", c.what, len(b), err)
		}
	}
}

func TestParseReadsWhatFrameWrites(t *testing.T) {
	for name := 1; name <= 12; name++ {
		for data := 0; data <= 24; data++ {
			seed := uint32(100*name + data)
			e := event(string(noise(seed, name)), int64(seed)<<31, int64(seed)<<40, string(noise(seed+1, data)))
			b := mustFrame(t, e)
			if got, n, v := journal.Parse(b); got != e || n != len(b) || v != api.Whole {
				t.Errorf("P5: Parse of the record of %#v: %#v, %d, %d", e, got, n, v)
			}
		}
	}
}

func TestParseLeavesWhatStandsBehind(t *testing.T) {
	e := event("stream", 3, 9, "data")
	b := mustFrame(t, e)
	for _, tail := range []string{"\x00", "tail", string(b), strings.Repeat("\xff", 1000)} {
		if got, n, v := journal.Parse([]byte(string(b) + tail)); got != e || n != len(b) || v != api.Whole {
			t.Errorf("P5: Parse of a record and %d bytes: %#v, %d, %d", len(tail), got, n, v)
		}
	}
}

func TestParseOfTooFewBytes(t *testing.T) {
	checkVerdict(t, "no bytes", nil, api.Short)
	checkVerdict(t, "no bytes", []byte{}, api.Short)
	for n := 1; n < 8; n++ {
		checkVerdict(t, "noughts", make([]byte, n), api.Short)
		checkVerdict(t, "a length that is too great", bytes.Repeat([]byte{0xff}, n), api.Short)
	}
	for _, e := range []api.Event{event("s", 1, 0, ""), event("s", 1, 0, "hi"), event("twelve-bytes", 5, 7, strings.Repeat("d", 24))} {
		b := mustFrame(t, e)
		for n := range b {
			checkVerdict(t, "the beginning of a record", b[:n:n], api.Short)
			// What lies behind in the same memory is none of the bytes.
			checkVerdict(t, "the beginning of a record", b[:n], api.Short)
		}
	}
}

func TestParseOfLengths(t *testing.T) {
	for _, c := range []struct {
		length uint32
		behind int
		want   api.Verdict
	}{
		{0, 0, api.Bad}, {1, 0, api.Bad}, {17, 0, api.Bad}, {17, 17, api.Bad}, {17, 100, api.Bad},
		{18, 0, api.Short}, {18, 17, api.Short}, {18, 18, api.Bad},
		{53, 0, api.Short}, {53, 52, api.Short}, {53, 53, api.Bad},
		{54, 0, api.Bad}, {54, 53, api.Bad}, {54, 54, api.Bad},
		{18 + 1<<8, 0, api.Bad}, {18 + 1<<16, 0, api.Bad}, {18 + 1<<24, 0, api.Bad},
		{math.MaxInt32, 0, api.Bad}, {1 << 31, 0, api.Bad}, {1<<31 + 18, 0, api.Bad},
		{math.MaxUint32, 0, api.Bad}, {math.MaxUint32 - 7, 100, api.Bad},
	} {
		checkVerdict(t, "a length", told(c.length, c.behind), c.want)
	}
	first := place(1, 0)
	checkVerdict(t, "a sealed payload of 17 bytes", sealed(named("", first, "")), api.Bad)
	checkVerdict(t, "a sealed payload of 18 bytes", sealed(named("s", first, "")), api.Whole)
	checkVerdict(t, "a sealed payload of 53 bytes", sealed(named("twelve-bytes", first, strings.Repeat("d", 24))), api.Whole)
	checkVerdict(t, "a sealed payload of 54 bytes", sealed(named("twelve-bytes", first, strings.Repeat("d", 25))), api.Bad)
}

func TestParseOfAWrongCheck(t *testing.T) {
	for _, e := range []api.Event{event("s", 1, 0, ""), event("twelve-bytes", 5, 7, strings.Repeat("d", 24))} {
		b := mustFrame(t, e)
		for i := 4; i < len(b); i++ {
			for bit := range 8 {
				turned := bytes.Clone(b)
				turned[i] ^= 1 << bit
				checkVerdict(t, "a bit turned", turned, api.Bad)
			}
		}
	}
}

func TestParseOfNames(t *testing.T) {
	first := place(1, 0)
	for _, c := range []struct {
		what    string
		payload string
		want    api.Verdict
	}{
		{"0 bytes, data behind", named("", first, "d"), api.Bad},
		{"0 bytes, data of 24", named("", first, strings.Repeat("d", 24)), api.Bad},
		{"1 byte", named("s", first, ""), api.Whole},
		{"12 bytes", named("twelve-bytes", first, ""), api.Whole},
		{"12 bytes and data", named("twelve-bytes", first, "d"), api.Whole},
		{"13 bytes", named("thirteen-byte", first, ""), api.Bad},
		{"13 bytes and data", named("thirteen-byte", first, strings.Repeat("d", 23)), api.Bad},
		{"36 bytes", named(strings.Repeat("s", 36), first, ""), api.Bad},
		{"too long by one", "\x02s" + first, api.Bad},
		{"too long by one, data within", "\x05abcd" + first, api.Bad},
		{"12 bytes told, one there", "\x0cs" + first, api.Bad},
		{"12 bytes told, 11 there", "\x0celeven-byte" + first, api.Bad},
		{"255 bytes told", "\xffs" + first, api.Bad},
		{"255 bytes told in the longest payload", "\xfftwelve-bytes" + first + strings.Repeat("d", 24), api.Bad},
		{"128 bytes told", "\x80s" + first, api.Bad},
	} {
		checkVerdict(t, "a name: "+c.what, sealed(c.payload), c.want)
	}
}

func TestParseOfData(t *testing.T) {
	first := place(1, 0)
	for _, name := range []string{"s", "stream", "eleven-byte"} {
		checkVerdict(t, "no data", sealed(named(name, first, "")), api.Whole)
		checkVerdict(t, "data of 24 bytes", sealed(named(name, first, strings.Repeat("d", 24))), api.Whole)
		checkVerdict(t, "data of 25 bytes", sealed(named(name, first, strings.Repeat("d", 25))), api.Bad)
	}
	checkVerdict(t, "data of 35 bytes", sealed(named("s", first, strings.Repeat("d", 35))), api.Bad)
}

func TestParseOfPlaces(t *testing.T) {
	for _, c := range []struct {
		version, position uint64
		want              api.Verdict
	}{
		{0, 0, api.Bad}, {1, 0, api.Whole}, {1 << 32, 0, api.Whole}, {1 << 62, 0, api.Whole},
		{math.MaxInt64, 0, api.Whole}, {1 << 63, 0, api.Bad}, {1<<63 + 1, 0, api.Bad}, {math.MaxUint64, 0, api.Bad},
		{1, 1, api.Whole}, {1, 1 << 32, api.Whole}, {1, math.MaxInt64, api.Whole},
		{1, 1 << 63, api.Bad}, {1, math.MaxUint64, api.Bad},
		{0, math.MaxUint64, api.Bad}, {math.MaxInt64, math.MaxInt64, api.Whole},
	} {
		b := sealed(named("s", place(c.version, c.position), "hi"))
		checkVerdict(t, "a place", b, c.want)
		want := event("s", int64(c.version), int64(c.position), "hi")
		if e, n, _ := journal.Parse(b); c.want == api.Whole && (e != want || n != len(b)) {
			t.Errorf("P5: Parse(%x) = %#v, %d, want %#v", b, e, n, want)
		}
	}
}

// What Parse calls whole is just what Frame writes, at whatever bytes; nothing else stands beside a verdict.
func TestParseOfAnyBytes(t *testing.T) {
	verdicts := map[api.Verdict]int{}
	for seed := range uint32(60_000) {
		p := noise(seed, int(seed%70))
		if len(p) > 0 {
			p[0] %= 16
		}
		b := sealed(string(p))
		switch seed % 5 {
		case 0:
			b = noise(seed, int(seed%90))
		case 1:
			b = b[:len(b)-int(seed/5)%(len(b)+1)]
		}
		e, n, v := journal.Parse(b)
		verdicts[v]++
		if v != api.Whole {
			checkVerdict(t, "any bytes", b, v)
			continue
		}
		if again := mustFrame(t, e); n > len(b) || !bytes.Equal(again, b[:n]) {
			t.Fatalf("P5: Parse(%x) is %#v, whose record is %x", b, e, again)
		}
	}
	if verdicts[api.Whole] < 100 || verdicts[api.Short] < 100 || verdicts[api.Bad] < 100 || len(verdicts) != 3 {
		t.Errorf("the bytes do not reach every verdict: %v", verdicts)
	}
}

func TestNothingHandedInIsChanged(t *testing.T) {
	short := mustFrame(t, event("s", 1, 0, "hi"))
	for _, b := range [][]byte{short, short[:len(short)-1], append(bytes.Clone(short), "tail"...), make([]byte, 60), noise(1, 200), sealed(named("", place(1, 0), "d"))} {
		// Bytes behind the end, in the same memory, are the caller's too.
		room := append(bytes.Clone(b), "room"...)
		before := bytes.Clone(room)
		journal.Sum(room[:len(b)])
		journal.Parse(room[:len(b)])
		if !bytes.Equal(room, before) {
			t.Errorf("P2: %x became %x", before, room)
		}
	}
}

func TestWhatParseTellsIsTheCallers(t *testing.T) {
	want := event("stream", 3, 9, "data")
	b := mustFrame(t, want)
	e, _, _ := journal.Parse(b)
	clear(b)
	if e != want {
		t.Errorf("P2: the event became %#v when the bytes were changed", e)
	}
}

func TestWhatFrameWritesIsTheCallers(t *testing.T) {
	e := event("stream", 3, 9, "data")
	first := mustFrame(t, e)
	want := bytes.Clone(first)
	second := mustFrame(t, e)
	clear(first[:cap(first)])
	if !bytes.Equal(second, want) || !bytes.Equal(mustFrame(t, e), want) {
		t.Errorf("P2: a record changed when another one was changed")
	}
	clear(second[:cap(second)])
	if sum := journal.Sum(want); sum != castagnoli(want) {
		t.Errorf("P2: Sum became %#x when a record was changed", sum)
	}
}
