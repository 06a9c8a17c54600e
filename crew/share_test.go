package crew

import (
	"slices"
	"testing"
	"testing/synctest"
	"time"

	"lampwright/api"
)

// The hours of these tests are those of a clock that goes on only while all workers wait. A worker that waits for ever makes a test fail.

// Each number is taken once, and as many of them at the same time as there are workers, all of whom have ended in the end.
func TestW1ToW3WorkersWorkAtTheSameTime(t *testing.T) {
	for workers := 1; workers <= api.MaxWorkers; workers++ {
		for many := range api.MaxGraphs + 1 {
			synctest.Test(t, func(t *testing.T) {
				begin := time.Now()
				taken := make([]int, many)
				share(many, workers, func(i int) {
					time.Sleep(time.Hour)
					taken[i]++
				})
				if slices.ContainsFunc(taken, func(times int) bool { return times != 1 }) {
					t.Errorf("%d workers have taken the numbers %v times", workers, taken)
				}
				rounds := (many + workers - 1) / workers
				if hours := int(time.Since(begin) / time.Hour); hours != rounds {
					t.Errorf("%d workers need %d hours for %d numbers, must be %d", workers, hours, many, rounds)
				}
			})
		}
	}
}

// Workers of different speed take each number once, too.
func TestW3SpeedDoesNotMatter(t *testing.T) {
	for workers := 1; workers <= api.MaxWorkers; workers++ {
		for slow := range 7 {
			synctest.Test(t, func(t *testing.T) {
				want, got := make([]int, api.MaxGraphs), make([]int, api.MaxGraphs)
				for i := range want {
					want[i] = i * i
				}
				share(len(got), workers, func(i int) {
					time.Sleep(time.Duration(i*slow%7) * time.Hour)
					got[i] += i * i
				})
				if !slices.Equal(got, want) {
					t.Errorf("%d workers return %v, must be %v", workers, got, want)
				}
			})
		}
	}
}

// No number that is added at the same time as another one is lost.
func TestW2CounterAddsAll(t *testing.T) {
	const times = 1 << 16
	var total counter
	share(api.MaxWorkers, api.MaxWorkers, func(i int) {
		for range times {
			total.add(i)
		}
	})
	if want := times * api.MaxWorkers * (api.MaxWorkers - 1) / 2; total.many != want {
		t.Errorf("the total is %d, must be %d", total.many, want)
	}
}
