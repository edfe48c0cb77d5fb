package testkit

import (
	"slices"
	"sync"
)

// Again tells what is told of each number below n, all of them, and then again from several goroutines at once, and answers what was told otherwise then.
func Again(n int, told func(i int) string) []string {
	first := make([]string, n)
	for i := range first {
		first[i] = told(i)
	}
	otherwise := make([][]string, 4)
	var group sync.WaitGroup
	for g := range otherwise {
		group.Go(func() {
			for i, want := range first {
				if got := told(i); got != want {
					otherwise[g] = append(otherwise[g], got+", at first "+want)
				}
			}
		})
	}
	group.Wait()
	return slices.Concat(otherwise...)
}
