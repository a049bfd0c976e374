package watch

import (
	"sync"

	"hindsight/api"
	"hindsight/file"
	"hindsight/recorder"
)

const (
	maxWorkers = 64
	maxFiles   = 1024
)

// Run looks at a recording's bytes that come in pieces, by workers beside one another; stop cancels it behind so many pieces (-1: never).
func Run(pieces [][]byte, stop int) (api.Verdict, api.Errno) {
	w, next, done := New(), make(chan []byte), make(chan struct{})
	var fault api.Errno
	var both sync.WaitGroup
	both.Add(2)
	go func() {
		defer both.Done()
		handOn(pieces, stop, next, done)
	}()
	go func() {
		defer both.Done()
		fault = pushAll(w, next, done)
	}()
	both.Wait()
	switch {
	case fault != api.OK:
		return api.Verdict{}, fault
	case stop >= 0 && stop < len(pieces):
		return w.Sofar(), api.ErrCancel
	}
	return w.Close()
}

// handOn hands pieces on, one by one; done is closed ahead of the one at stop, if it comes to that. A piece
// is handed on when it was received: so none is under way then, and it is the same which of the two channels
// the one that receives finds closed first.
func handOn(pieces [][]byte, stop int, next chan<- []byte, done chan<- struct{}) {
	defer close(next)
	for place, piece := range pieces {
		if place == stop {
			close(done)
			return
		}
		next <- piece
	}
}

// pushAll pushes pieces into a watch, up to the last one or to the closing of done, and answers the first
// error. Behind an error pieces are still received, since the one that hands them on waits for it.
func pushAll(w *Watch, next <-chan []byte, done <-chan struct{}) api.Errno {
	fault := api.OK
	for {
		select {
		case piece, more := <-next:
			if !more {
				return fault
			}
			if fault == api.OK {
				_, fault = w.Push(piece)
			}
		case <-done:
			return fault
		}
	}
}

// Batch looks at many files and recordings by so many workers.
func Batch(files [][]byte, workers int) ([]api.Verdict, []api.Errno, api.Errno) {
	if workers < 1 || workers > maxWorkers {
		return nil, nil, api.ErrArg
	}
	if len(files) > maxFiles {
		return nil, nil, api.ErrLarge
	}
	verdicts, faults := make([]api.Verdict, len(files)), make([]api.Errno, len(files))
	places := make(chan int)
	var team sync.WaitGroup
	team.Add(workers)
	for range workers {
		go func() {
			defer team.Done()
			for place := range places {
				verdicts[place], faults[place] = look(files[place])
			}
		}()
	}
	for place := range files {
		places <- place
	}
	close(places)
	team.Wait()
	return verdicts, faults, api.OK
}

// look is the verdict of a file, or of a recording that nothing stands behind.
func look(b []byte) (api.Verdict, api.Errno) {
	t, fault := file.Load(b)
	if fault == api.OK {
		return Analyze(t)
	}
	t, taken, no := recorder.Recover(b)
	if no == api.OK && taken == len(b) {
		return Analyze(t)
	}
	return api.Verdict{}, fault
}
