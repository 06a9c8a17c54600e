package crew

import "sync"

// share calls do for each number from 0 on that is less than many. As many workers as there are take one number after the other, and all of them have ended when it returns. No two calls may write to the same memory without a lock.
func share(many, workers int, do func(i int)) {
	work := make(chan int)
	var group sync.WaitGroup
	for range workers {
		group.Add(1)
		go func() {
			defer group.Done()
			for i := range work {
				do(i)
			}
		}()
	}
	for i := range many {
		work <- i
	}
	close(work)
	group.Wait()
}

// counter adds up what several workers count.
type counter struct {
	sync.Mutex
	many int
}

// add adds what one of the workers has counted.
func (c *counter) add(n int) {
	c.Lock()
	defer c.Unlock()
	c.many += n
}
