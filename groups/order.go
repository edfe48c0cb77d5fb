package groups

import (
	"container/heap"
	"sort"
)

// turns is a heap of groups that may stand now, by their lowest places.
type turns struct {
	sort.IntSlice
}

// Push is what container/heap asks for; add is what to call.
func (t *turns) Push(x any) { t.IntSlice = append(t.IntSlice, x.(int)) }

// Pop is what container/heap asks for; take is what to call.
func (t *turns) Pop() any {
	end := len(t.IntSlice) - 1
	last := t.IntSlice[end]
	t.IntSlice = t.IntSlice[:end]
	return last
}

func (t *turns) add(group int) { heap.Push(t, group) }

func (t *turns) take() int { return heap.Pop(t).(int) }

// inOrder tells groups one by one, each behind all that it uses, and as early as a lower one lets it.
func inOrder(uses [][]int, l parts) [][]int {
	users, waits := between(uses, l.lowest)
	var free turns
	for p, group := range l.groups {
		if group != nil && waits[p] == 0 {
			free.add(p)
		}
	}
	var all [][]int
	for free.Len() > 0 {
		stands := free.take()
		all = append(all, l.groups[stands])
		for _, user := range users[stands] {
			waits[user]--
			if waits[user] == 0 {
				free.add(user)
			}
		}
	}
	return all
}

// between tells of each group which others use it, as often as they do, and how many uses of others it has itself.
func between(uses [][]int, lowest []int) (users [][]int, waits []int) {
	users, waits = make([][]int, len(uses)), make([]int, len(uses))
	for p, l := range uses {
		for _, q := range l {
			user, used := lowest[p], lowest[q]
			if user != used {
				users[used] = append(users[used], user)
				waits[user]++
			}
		}
	}
	return users, waits
}
