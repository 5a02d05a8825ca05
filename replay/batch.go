package replay

import (
	"sync"

	"reclaim/api"
)

// batch runs scripts that may be. Which worker makes which run is left to them: each run has its own place.
func batch(c api.Config, scripts [][]api.Move, workers int) []api.Run {
	runs := make([]api.Run, len(scripts))
	numbers := make(chan int)
	var crowd sync.WaitGroup
	crowd.Add(workers)
	for range workers {
		go func() {
			defer crowd.Done()
			for number := range numbers {
				runs[number], _ = play(c, scripts[number], nobodys())
			}
		}()
	}
	for number := range scripts {
		numbers <- number
	}
	close(numbers)
	crowd.Wait()
	return runs
}
