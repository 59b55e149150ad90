package journal_test

import (
	"errors"
	"fmt"
	"reflect"
	"runtime"
	"slices"
	"strings"
	"testing"
	"time"

	"journal/api"
	"journal/journal"
	"journal/plain"
)

// jobsOf is n jobs of so many batches; their data tell whose they are, numbered from first on.
func jobsOf(first, n, batches int, streamOf func(who, k int) string) []api.Job {
	var jobs []api.Job
	for who := first; who < first+n; who++ {
		job := api.Job{Stream: streamOf(who, 0)}
		for k := range batches {
			job.Batches = append(job.Batches, deedOf(who, k, "").data)
		}
		jobs = append(jobs, job)
	}
	return jobs
}

// together is Together, which must end, and tell something for each batch of each job.
func together(t *testing.T, s *journal.Store, jobs ...api.Job) [][]api.Done {
	t.Helper()
	var answers [][]api.Done
	if !ended(func() { answers = journal.Together(s, jobs...) }) {
		t.Fatal("P15: Together waits for ever")
	}
	right := len(answers) == len(jobs)
	for i := 0; right && i < len(jobs); i++ {
		right = len(answers[i]) == len(jobs[i].Batches)
	}
	if !right {
		t.Fatalf("P15: Together(%v) = %v", jobs, answers)
	}
	return answers
}

// deedsOf is the jobs and what they were answered.
func deedsOf(jobs []api.Job, answers [][]api.Done) [][]deed {
	deeds := make([][]deed, len(jobs))
	for i, job := range jobs {
		for k, data := range job.Batches {
			deeds[i] = append(deeds[i], deed{job.Stream, data, answers[i][k]})
		}
	}
	return deeds
}

func TestTogether(t *testing.T) {
	for what, streamOf := range streamKinds() {
		for _, c := range starts() {
			for _, n := range []int{1, 2, 7} {
				s, d := openStart(t, c)
				m := modelOf(d.now())
				d.behind = func() { idle(n % 3) }
				jobs := jobsOf(0, n, 7, streamOf)
				deeds := deedsOf(jobs, together(t, s, jobs...))
				for _, a := range slices.Concat(deeds...) {
					if a.Err != nil {
						t.Fatalf("P15: %s, %s: Append(%q) = %v", what, c.what, a.data, a.Err)
					}
				}
				m.settle(t, "Together, "+what+", "+c.what, s, d, deeds)
			}
		}
	}
}

// Jobs of streams of their own have but one answer; so have their streams.
func TestTogetherAnswersInOrder(t *testing.T) {
	for range 20 {
		s := mustOpen(t, diskOf(nil))
		var jobs []api.Job
		var want [][]api.Done
		for who := range 9 {
			job := api.Job{Stream: fmt.Sprint("s", who)}
			dones, version := []api.Done{}, int64(0)
			for k := range 9 - who { // jobs of as many batches as no other one has
				job.Batches = append(job.Batches, deedOf(who, k, "").data)
				version += int64(len(job.Batches[k]))
				dones = append(dones, api.Done{Version: version})
			}
			jobs, want = append(jobs, job), append(want, dones)
		}
		if got := together(t, s, jobs...); !reflect.DeepEqual(got, want) {
			t.Fatalf("P15: Together = %v, want %v", got, want)
		}
		for _, job := range jobs {
			var want []string
			for i, data := range slices.Concat(job.Batches...) {
				want = append(want, fmt.Sprintf("%d=%s", i+1, data))
			}
			if got := pairs(t, s.Read(job.Stream, 0), 0); !slices.Equal(got, want) {
				t.Fatalf("P15: the stream %q is %q, want %q", job.Stream, got, want)
			}
		}
	}
}

// kind is a store (none, too), and what appendError must know of it.
type kind struct {
	what           string
	store          *journal.Store
	closed, failed bool
}

func storeKinds(t *testing.T) []kind {
	t.Helper()
	open, _ := three(t, false)
	failed, _ := three(t, true)
	closed, _ := three(t, false)
	closed.Close()
	both, _ := three(t, true)
	both.Close()
	return []kind{
		{"a store", open, false, false},
		{"no store", nil, true, false},
		{"a store that has failed", failed, false, true},
		{"a closed store", closed, true, false},
		{"a store that has failed and is closed", both, true, true},
	}
}

func TestTogetherWithoutJobs(t *testing.T) {
	for _, c := range storeKinds(t) {
		for _, jobs := range [][]api.Job{nil, {}, make([]api.Job, 0, 4)} {
			if got := together(t, c.store, jobs...); len(got) != 0 {
				t.Errorf("P15: %s: Together without jobs = %v", c.what, got)
			}
		}
		if got := journal.Together(c.store); len(got) != 0 {
			t.Errorf("P15: %s: Together without jobs = %v", c.what, got)
		}
	}
}

func TestTogetherOfJobsWithoutBatches(t *testing.T) {
	for _, c := range storeKinds(t) {
		jobs := []api.Job{
			{}, {Stream: "a"}, {Stream: "b", Batches: [][]string{{"x"}}}, {Stream: "a", Batches: [][]string{}},
			{Stream: strings.Repeat("s", 13)}, {Stream: "c", Batches: [][]string{{"x"}, {"y"}}}, {Stream: "c"},
		}
		want := []string{"[]", "[]", "[{1 <nil>}]", "[]", "[]", "[{1 <nil>} {2 <nil>}]", "[]"}
		for i, dones := range together(t, c.store, jobs...) {
			if got := fmt.Sprint(dones); len(dones) != len(jobs[i].Batches) || got != want[i] && !c.closed && !c.failed {
				t.Errorf("P15: %s: job %d is answered %s, want %s", c.what, i, got, want[i])
			}
		}
	}
}

// anyJobs is jobs with batches that are refused among good ones, each to a stream of its own.
func anyJobs() []api.Job {
	fits, long := strings.Repeat("d", 24), strings.Repeat("d", 25)
	batches := [][]string{
		{"1"}, nil, {"2"}, {}, {fits, fits, fits, fits}, {"", "", "", "", ""}, {long}, {""}, {"3", "4"}, {"5", long}, {long, "", "", "", ""}, {"6", "7", "8"},
		slices.Repeat([]string{long}, 300), {"9"},
	}
	reversed := slices.Clone(batches)
	slices.Reverse(reversed)
	return []api.Job{
		{Stream: "a", Batches: batches}, {Stream: "", Batches: batches}, {Stream: "b", Batches: reversed}, {Stream: "thirteen-byte", Batches: reversed},
		{Stream: "twelve-bytes", Batches: batches}, {Stream: "\x00", Batches: [][]string{nil, {long}, {}}}, {Stream: strings.Repeat("s", 256), Batches: batches},
	}
}

func TestTogetherGoesOnBehindARefusedBatch(t *testing.T) {
	for _, c := range storeKinds(t) {
		jobs := anyJobs()
		before := map[string]int64{}
		for _, job := range jobs {
			if c.store != nil {
				before[job.Stream] = c.store.Version(job.Stream)
			}
		}
		answers := together(t, c.store, jobs...)
		for i, job := range jobs {
			version := before[job.Stream]
			for k, data := range job.Batches {
				want := api.Done{Err: appendError(c.closed, c.failed, job.Stream, api.Any, 0, data)}
				if want.Err == nil {
					version += int64(len(data))
					want.Version = version
				}
				if got := answers[i][k]; got != want {
					t.Errorf("P15: %s: the batch %q of %q is answered %v, want %v", c.what, data, job.Stream, got, want)
				}
			}
			if c.store != nil && c.store.Version(job.Stream) != version {
				t.Errorf("P15: %s: the version of %q is %d, want %d", c.what, job.Stream, c.store.Version(job.Stream), version)
			}
		}
	}
}

func TestSeveralTogetherAtOnce(t *testing.T) {
	const calls, each = 5, 4
	for what, streamOf := range streamKinds() {
		for round := range 8 {
			d := diskOf(nil)
			s := mustOpen(t, d)
			d.behind = func() { idle(round % 3) }
			deeds := make([][][]deed, calls)
			atOnce(t, calls, func(who int) {
				jobs := jobsOf(who*each, each, 5, streamOf)
				deeds[who] = deedsOf(jobs, journal.Together(s, jobs...))
			})
			m := modelOf(nil)
			m.settle(t, "several Together, "+what, s, d, slices.Concat(deeds...))
			if n := len(m.events); n != 5*calls*each*5/2 {
				t.Errorf("P15: %s: there are %d events", what, n)
			}
		}
	}
}

// Together, at once with every other call: what is answered behind ErrClosed is ErrClosed.
func TestTogetherAndCloseAtOnce(t *testing.T) {
	const jobsEach, callers = 4, 3
	some := 0
	for round := range 60 {
		d := diskOf(map[string]string{seg0: head(0) + record("first", 1, 0, "0")})
		s := mustOpen(t, d)
		m := modelOf(d.now())
		d.behind = func() { idle(round % 3) }
		deeds := make([][][]deed, callers+1)
		atOnce(t, callers+3, func(who int) {
			switch {
			case who < callers:
				jobs := jobsOf(who*jobsEach, jobsEach, 6, eitherStream)
				deeds[who] = deedsOf(jobs, journal.Together(s, jobs...))
			case who == callers:
				deeds[who] = [][]deed{tillClosed(t, s, callers*jobsEach, 6)}
			case who == callers+1:
				watch(t, s, round)
			default:
				idle(round * 5)
				if err := s.Close(); err != nil {
					t.Errorf("P13: Close = %v", err)
				}
			}
		})
		for _, l := range slices.Concat(deeds...) {
			closed := false
			for _, a := range l {
				if a.Err != nil && a.Err != api.ErrClosed || a.Err == nil && closed {
					t.Fatalf("P15: at once with Close the batches are answered %v", l)
				}
				closed = a.Err != nil
			}
		}
		d.behind = nil
		again := mustOpen(t, d)
		m.follow(t, "Together and Close", slices.Concat(deeds...), all(again))
		m.check(t, "Together and Close", again, d)
		if d.beside.Load() {
			t.Fatal("P2: two goroutines called the files at once")
		}
		if n := len(m.events); n > 1 && n < callers*jobsEach*6 {
			some++
		}
	}
	if some == 0 {
		t.Error("Close never came in the midst of Together")
	}
}

func TestTogetherWithinTheGoingThrough(t *testing.T) {
	s := mustOpen(t, diskOf(nil))
	s.Append("a", api.New, "1", "2", "3")
	n := int64(0)
	for e := range s.All(0) {
		n++
		got := together(t, s, jobsOf(0, 3, 2, ownStream)...)
		if e != event("a", n, n-1, fmt.Sprint(n)) || got[2][1].Err != nil {
			t.Errorf("P9: All tells %v as number %d, Together = %v", e, n, got)
		}
	}
	if n != 3 {
		t.Errorf("P9: All told %d events, want 3", n)
	}
}

// Each job waits in a goroutine of its own while the files are slow, and Together waits for them.
func TestTogetherHasAGoroutineForEachJob(t *testing.T) {
	const n = 9
	f := slow{diskOf(nil), make(chan struct{}, 100), make(chan struct{})}
	s := mustOpen(t, f)
	before := runtime.NumGoroutine()
	answered := make(chan [][]api.Done, 1)
	go func() { answered <- journal.Together(s, jobsOf(0, n, 2, eitherStream)...) }()
	select {
	case <-f.begun:
	case got := <-answered:
		t.Fatalf("P15: Together answers %v ahead of Sync", got)
	}
	most := 0
	for begun := time.Now(); most <= n && time.Since(begun) < 5*time.Second; idle(10) {
		most = max(most, runtime.NumGoroutine()-before)
	}
	if most <= n { // that which calls Together is one of them
		t.Errorf("P15: %d jobs have %d goroutines", n, most-1)
	}
	select {
	case got := <-answered:
		t.Fatalf("P15: Together answers %v while the files are written", got)
	case <-time.After(30 * time.Millisecond):
	}
	close(f.let)
	got := <-answered
	for i := range n {
		if got[i][0].Err != nil || got[i][1].Err != nil {
			t.Errorf("P15: job %d is answered %v", i, got[i])
		}
	}
	if left := goroutines(before); left > before {
		t.Errorf("P15: behind Together there are %d goroutines, were %d", left, before)
	}
}

// With one processor it can be seen that the goroutines have ended (but for a rare turn of the scheduler): see TestTheWriterHasEndedWhenCloseAnswers.
func TestTogetherHasEndedItsGoroutines(t *testing.T) {
	defer runtime.GOMAXPROCS(runtime.GOMAXPROCS(1))
	const rounds = 40
	for _, c := range storeKinds(t) {
		runs := 0
		for range rounds {
			before := runtime.NumGoroutine()
			journal.Together(c.store, jobsOf(0, 5, 3, eitherStream)...)
			if runtime.NumGoroutine() <= before {
				runs++
			}
		}
		if runs < rounds/2 {
			t.Errorf("P15: %s: the goroutines had ended %d times of %d when Together answered", c.what, runs, rounds)
		}
	}
}

func TestTogetherOfManyJobs(t *testing.T) {
	const n = 2000
	d := diskOf(nil)
	s := mustOpen(t, d)
	jobs := slices.Repeat([]api.Job{{Stream: "one", Batches: [][]string{{"x"}}}}, n)
	var versions []int64
	for _, dones := range together(t, s, jobs...) {
		if dones[0].Err != nil {
			t.Fatalf("P15: Append = %v", dones[0].Err)
		}
		versions = append(versions, dones[0].Version)
	}
	slices.Sort(versions)
	for i, v := range versions {
		if v != int64(i)+1 {
			t.Fatalf("P15: the versions told are %v", versions)
		}
	}
	if s.Version("one") != n || d.beside.Load() {
		t.Errorf("P15: the version is %d, want %d", s.Version("one"), n)
	}
}

func TestTogetherKeepsNothing(t *testing.T) {
	for _, c := range storeKinds(t) {
		stream, streamBytes := loose("stream")
		first, firstBytes := loose("first")
		second, secondBytes := loose("second")
		batch := append(make([]string, 0, 5), first, second)
		batches := append(make([][]string, 0, 5), batch, nil, batch[:1])
		jobs := append(make([]api.Job, 0, 5), api.Job{Stream: stream, Batches: batches}, api.Job{Stream: "other", Batches: batches[2:]})
		answers := together(t, c.store, jobs...)
		same := slices.Equal(batch[:5], []string{"first", "second", "", "", ""}) &&
			reflect.DeepEqual(batches[:5], [][]string{{"first", "second"}, nil, {"first"}, nil, nil}) &&
			reflect.DeepEqual(jobs[:5], []api.Job{{Stream: "stream", Batches: batches}, {Stream: "other", Batches: batches[2:]}, {}, {}, {}})
		if !same {
			t.Errorf("P2: %s: the jobs became %v", c.what, jobs[:5])
		}
		told := fmt.Sprint(answers)
		for _, b := range [][]byte{streamBytes, firstBytes, secondBytes} {
			clear(b)
		}
		clear(batch)
		clear(batches)
		clear(jobs)
		if got := fmt.Sprint(answers); got != told {
			t.Errorf("P2: %s: the answers became %s, were %s", c.what, got, told)
		}
		if c.store == nil || c.closed || c.failed {
			continue
		}
		if got := pairs(t, c.store.Read("stream", 0), 0); !slices.Equal(got, []string{"1=first", "2=second", "3=first"}) {
			t.Errorf("P2: %s: Read tells %q", c.what, got)
		}
		if got := c.store.Version("other"); got != 1 {
			t.Errorf("P2: %s: the version is %d", c.what, got)
		}
	}
}

// Each list of two answers is changed, and put behind: no other list becomes another one.
func TestAnswersOfTogetherAreTheCallers(t *testing.T) {
	for _, c := range storeKinds(t) {
		jobs := jobsOf(0, 6, 3, oneStream)
		jobs[2].Batches, jobs[4].Batches = nil, [][]string{}
		lists := slices.Concat(together(t, c.store, jobs...), together(t, c.store, jobs...))
		for i := range lists {
			others := func() string { return fmt.Sprint(lists[:i], lists[i+1:]) }
			told := others()
			_ = append(lists[i], api.Done{Version: 77}, api.Done{Version: 78})
			for k := range lists[i] {
				lists[i][k] = api.Done{Version: 79}
			}
			if got := others(); got != told {
				t.Errorf("P2: %s: when the list %d is changed, the others become %s, were %s", c.what, i, got, told)
			}
		}
	}
}

// The files fail within Together, at each of their calls.
func TestFilesFailWithinTogether(t *testing.T) {
	for at := 1; at <= 40; at++ {
		for mode := range 4 {
			what := fmt.Sprintf("Together: call %d fails, mode %d", at, mode)
			d := diskOf(nil)
			s := mustOpen(t, d)
			d.asked, d.fault, d.done, d.part = nil, failing(at, mode&1 != 0), mode&2 != 0, at*11%150
			d.behind = func() { idle(1) }
			jobs := jobsOf(0, 6, 8, eitherStream)
			deeds := deedsOf(jobs, together(t, s, jobs...))
			broke := checkFailure(t, what, deeds)
			told := all(s)
			modelOf(nil).follow(t, what, deeds, told)
			for _, dones := range together(t, s, jobs...) {
				for _, done := range dones {
					if done != (api.Done{Err: api.ErrFailed}) {
						t.Fatalf("P12: %s: Together of a store that has failed is answered %v", what, done)
					}
				}
			}
			if len(d.asked) != at || d.beside.Load() {
				t.Fatalf("P12: %s: the files were asked %d times", what, len(d.asked))
			}
			s.Close()
			d.fault, d.behind = nil, nil
			checkBroken(t, what, all(mustOpen(t, d)), told, broke)
		}
	}
}

func TestTogetherOverFilesThatPanic(t *testing.T) {
	for at := 1; at <= 12; at++ {
		d := diskOf(nil)
		s := mustOpen(t, d)
		d.asked = nil
		d.fault = func(call int) error {
			if call == at {
				panic("the disk")
			}
			return nil
		}
		jobs := jobsOf(0, 5, 3, eitherStream)
		deeds := deedsOf(jobs, together(t, s, jobs...))
		modelOf(nil).follow(t, "files that panic", deeds, all(s))
		failed := 0
		for _, a := range slices.Concat(deeds...) {
			if a.Err != nil && !errors.Is(a.Err, api.ErrFailed) {
				t.Errorf("P1: call %d panics: Append(%q) = %v", at, a.data, a.Err)
			}
			if a.Err != nil {
				failed++
			}
		}
		if failed != 15-(at-1)/2 {
			t.Errorf("P1: call %d panics: %d Appends fail", at, failed)
		}
	}
}

// What a store tells while Together is on is safe.
func TestPowerFailsWithinTogether(t *testing.T) {
	for what, streamOf := range streamKinds() {
		d := diskOf(nil)
		s := mustOpen(t, d)
		var logs [][]api.Event
		var left [][]map[string]string
		d.behind = func() {
			logs, left = append(logs, all(s)), append(left, d.crashes())
			idle(2)
		}
		jobs := jobsOf(0, 4, 4, streamOf)
		deeds := deedsOf(jobs, together(t, s, jobs...))
		m := modelOf(nil)
		m.settle(t, what, s, d, deeds)
		for i, told := range logs {
			for _, files := range left[i] {
				again := mustOpen(t, diskOf(files))
				got := all(again)
				again.Close()
				if len(got) < len(told) || len(got) > len(m.events) || !slices.Equal(got, m.events[:len(got)]) {
					t.Fatalf("P14: %s: opened anew the log is %q, told was %q", what, text(got), text(told))
				}
			}
		}
	}
}

// The same from outside, by the files of package plain.
func TestTogetherFromOutside(t *testing.T) {
	jobs := []plain.Job{
		{Stream: "a", Batches: [][]string{{"1"}, {"2", "3"}, {}, {"4"}}}, {Stream: "", Batches: [][]string{{"x"}}}, {Stream: "none"},
		{Stream: "b", Batches: [][]string{{strings.Repeat("d", 25)}, {"y"}}}, {Stream: "c", Batches: [][]string{{"1", "2", "3", "4", "5"}}},
	}
	told := func(err int) plain.Done { return plain.Done{Told: plain.Told{Err: err}} }
	want := [][]plain.Done{
		{{Version: 1}, {Version: 3}, told(plain.Batch), {Version: 4}}, {told(plain.Stream)}, nil, {told(plain.Data), {Version: 1}}, {told(plain.Batch)},
	}
	closed := told(plain.Closed)
	none := [][]plain.Done{{closed, closed, closed, closed}, {closed}, nil, {closed, closed}, {closed}}
	for range 10 {
		d := plain.NewDisk(nil)
		s, err := plain.Open(d)
		if s == nil {
			t.Fatalf("P7: Open answers %+v", err)
		}
		if got := plain.Together(s, jobs); !reflect.DeepEqual(got, want) {
			t.Errorf("P15: Together = %+v, want %+v", got, want)
		}
		if got := plain.Together(nil, jobs); !reflect.DeepEqual(got, none) {
			t.Errorf("P15: Together without a store = %+v", got)
		}
		if err := s.Close(); err.Err != plain.Fine {
			t.Errorf("P13: Close answers %+v", err)
		}
		if got := plain.Together(s, jobs); !reflect.DeepEqual(got, none) {
			t.Errorf("P15: Together of a closed store = %+v", got)
		}
	}
}
