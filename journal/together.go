package journal

import (
	"sync"

	"journal/api"
)

// Together has several clients append, each in a goroutine of its own (P15).
func Together(s *Store, jobs ...api.Job) [][]api.Done {
	answers := make([][]api.Done, len(jobs))
	var clients sync.WaitGroup
	for i, job := range jobs {
		clients.Add(1)
		go func() {
			defer clients.Done()
			answers[i] = appendAll(s, job)
		}()
	}
	clients.Wait()
	return answers
}

// appendAll tells what came of each batch of a job. One that is refused does not keep the next one from being appended.
func appendAll(s *Store, job api.Job) []api.Done {
	answers := make([]api.Done, len(job.Batches))
	for i, data := range job.Batches {
		answers[i] = appendOne(s, job.Stream, data)
	}
	return answers
}

// appendOne is Append also where there is no store: that is like one that is closed.
func appendOne(s *Store, stream string, data []string) api.Done {
	if s == nil {
		return api.Done{Err: api.ErrClosed}
	}
	version, err := s.Append(stream, api.Any, data...)
	return api.Done{Version: version, Err: err}
}
