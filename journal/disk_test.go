package journal_test

import (
	"bytes"
	"encoding/binary"
	"errors"
	"fmt"
	"maps"
	"slices"
	"strings"
	"sync"
	"sync/atomic"
	"testing"
	"time"

	"journal/api"
	"journal/journal"
)

var errDisk = errors.New("the disk")

// kept is a file: what of it is safe, what stands there, whether it was ever safe, and what stood there ahead of each cut that is not safe.
type kept struct {
	safe, now string
	made      bool
	was       []string
}

// disk is files that tell what was asked of them, and fail where they are told to.
type disk struct {
	files  map[string]*kept
	lock   sync.Mutex // is held while a call changes the files
	asked  []string
	gave   [][]byte             // what Read has given
	copies [][]byte             // and what that was then
	fault  func(call int) error // what a call answers (1, 2 ..)
	done   bool                 // a call that fails has done its work
	part   int                  // above 0: an Append, Sync or Cut that fails has done its work with one byte less than part
	behind func()               // is called behind each call
	busy   atomic.Bool          // a call is on
	beside atomic.Bool          // a call came while another one was on
}

// diskOf is a disk with some files, all safe.
func diskOf(files map[string]string) *disk {
	d := &disk{files: map[string]*kept{}}
	for name, text := range files {
		d.files[name] = &kept{safe: text, now: text, made: true}
	}
	return d
}

// call is one call of the files; half is what a call may do that fails.
func (d *disk) call(what string, do func(), half ...func()) error {
	if d.busy.Swap(true) {
		d.beside.Store(true)
	}
	defer d.busy.Store(false)
	d.asked = append(d.asked, what)
	var err error
	if d.fault != nil {
		err = d.fault(len(d.asked))
	}
	d.lock.Lock()
	if err == nil || d.done {
		do()
	} else {
		for _, some := range half {
			some()
		}
	}
	d.lock.Unlock()
	if d.behind != nil {
		d.behind()
	}
	return err
}

func (d *disk) Names() ([]string, error) {
	var l []string
	err := d.call("Names", func() {
		l = slices.Sorted(maps.Keys(d.files))
		slices.Reverse(l)
	})
	return l, err
}

func (d *disk) Read(name string) ([]byte, error) {
	var b []byte
	there := d.files[name] != nil
	err := d.call("Read "+name, func() {
		if there {
			b = append([]byte(d.files[name].now), "room behind"...)
			d.gave, d.copies = append(d.gave, b), append(d.copies, bytes.Clone(b))
			b = b[:len(d.files[name].now)]
		}
	})
	if !there {
		return nil, errDisk
	}
	return b, err
}

func (d *disk) Append(name string, b []byte) error {
	put := func(b []byte) {
		if d.files[name] == nil {
			d.files[name] = &kept{}
		}
		d.files[name].now += string(b)
	}
	return d.call("Append "+name, func() { put(b) }, func() {
		if d.part > 0 {
			put(b[:min(d.part-1, len(b))])
		}
	})
}

func (d *disk) Sync(name string) error {
	f := d.files[name]
	return d.call("Sync "+name, func() {
		if f != nil {
			f.safe, f.made, f.was = f.now, true, nil
		}
	}, func() {
		if f != nil && d.part > 0 && strings.HasPrefix(f.now, f.safe) {
			f.safe, f.made = f.now[:min(len(f.safe)+d.part-1, len(f.now))], true
		}
	})
}

func (d *disk) Cut(name string, size int) error {
	f := d.files[name]
	cut := func(size int) {
		f.was = append(f.was, f.now)
		f.now = f.now[:size]
	}
	return d.call("Cut "+name, func() {
		if f != nil {
			cut(size)
		}
	}, func() {
		if f != nil && d.part > 0 {
			cut(max(size, len(f.now)-d.part+1))
		}
	})
}

func (d *disk) Remove(name string) error {
	return d.call("Remove "+name, func() { delete(d.files, name) })
}

// now is the files as they stand there.
func (d *disk) now() map[string]string {
	files := map[string]string{}
	for name, f := range d.files {
		files[name] = f.now
	}
	return files
}

// changes is what was asked that changes files.
func (d *disk) changes() []string {
	var l []string
	for _, what := range d.asked {
		if !strings.HasPrefix(what, "Names") && !strings.HasPrefix(what, "Read ") && !strings.HasPrefix(what, "Sync ") {
			l = append(l, what)
		}
	}
	return l
}

// crashes is all that the files can be when the power fails now.
func (d *disk) crashes() []map[string]string {
	l := []map[string]string{{}}
	for _, name := range slices.Sorted(maps.Keys(d.files)) {
		f := d.files[name]
		var next []map[string]string
		for _, files := range l {
			if !f.made {
				next = append(next, maps.Clone(files))
			}
			ends := f.ends()
			for _, text := range ends[1:] {
				with := maps.Clone(files)
				with[name] = text
				next = append(next, with)
			}
			files[name] = ends[0]
			next = append(next, files)
		}
		l = next
	}
	return l
}

// crashesNow is crashes, also while others append.
func (d *disk) crashesNow() []map[string]string {
	d.lock.Lock()
	defer d.lock.Unlock()
	return d.crashes()
}

// ends is what can be left of a file.
func (f *kept) ends() []string {
	l := []string{f.safe}
	for _, text := range append(slices.Clone(f.was), f.now) {
		n := len(text) // of a file that was cut below what is safe no further end can be left
		if strings.HasPrefix(text, f.safe) {
			n = len(f.safe)
		}
		for ; n <= len(text); n++ {
			l = append(l, text[:n])
		}
	}
	slices.Sort(l)
	return slices.Compact(l)
}

// head is the head of a segment.
func head(base uint64) string {
	b := binary.LittleEndian.AppendUint64([]byte("JL1\n"), base)
	return string(binary.LittleEndian.AppendUint32(b, castagnoli(b)))
}

// record is the record of an event.
func record(stream string, version, position int64, data string) string {
	return string(sealed(named(stream, place(uint64(version), uint64(position)), data)))
}

// logOf is the log of some files as the document tells it, and the good length of each segment that belongs to it.
func logOf(files map[string]string) ([]api.Event, map[string]int) {
	var events []api.Event
	good := map[string]int{}
	versions := map[string]int64{}
	for {
		next := int64(len(events))
		name := fmt.Sprintf("seg-%08d", next)
		_, before := good[name]
		if before || !strings.HasPrefix(files[name], head(uint64(next))) {
			return events, good
		}
		length := 16
		for {
			e, n, v := journal.Parse([]byte(files[name][length:]))
			if v != api.Whole || e.Position != int64(len(events)) || e.Version != versions[e.Stream]+1 {
				break
			}
			events = append(events, e)
			versions[e.Stream]++
			length += n
		}
		good[name] = length
		if length != len(files[name]) {
			return events, good
		}
	}
}

func mustOpen(t *testing.T, f api.Files) *journal.Store {
	t.Helper()
	s, err := journal.Open(f)
	if err != nil || s == nil {
		t.Fatalf("P7: Open = %v, %v", s, err)
	}
	t.Cleanup(func() { ended(func() { s.Close() }) })
	return s
}

// ended has something done, and tells whether it has ended: what waits for ever is not waited for.
func ended(do func()) bool {
	done := make(chan struct{})
	go func() {
		defer close(done)
		do()
	}()
	select {
	case <-done:
		return true
	case <-time.After(20 * time.Second):
		return false
	}
}

// all is what All tells from the first event on.
func all(s *journal.Store) []api.Event {
	var l []api.Event
	for e := range s.All(0) {
		l = append(l, e)
	}
	return l
}

// text is events as a text.
func text(l []api.Event) string {
	var told []string
	for _, e := range l {
		told = append(told, fmt.Sprintf("%d:%s%d=%s", e.Position, e.Stream, e.Version, e.Data))
	}
	return strings.Join(told, " ")
}
