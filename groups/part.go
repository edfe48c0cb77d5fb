package groups

import "slices"

// parts are places parted into groups. A group is told by its lowest place, since the order asks for nothing else.
type parts struct {
	lowest []int   // of each place that of its group; none, while it stands in no group
	groups [][]int // at each group's lowest place its places, rising
}

const none = -1

// visit is a place on the way of a search: which of its uses is next, and the earliest meeting with a place of no group yet that it has led back to.
type visit struct {
	place, next, back int
}

// search goes from use to use as deep as it leads (Tarjan's way). A place that leads back to none that was met ahead of it makes a group of itself and of those that were met behind it and stand in none.
type search struct {
	parts
	uses [][]int
	met  []int   // when each place was met, from 1 on; 0, if it was not
	way  []visit // from where it began to where it stands: a stack of its own, since a chain may be longer than calls should be nested
	open []int   // places that were met and stand in no group, the last one met behind
	now  int
}

// part tells the groups of places by what each place uses.
func part(uses [][]int) parts {
	n := len(uses)
	s := search{uses: uses, met: make([]int, n)}
	s.parts = parts{lowest: slices.Repeat([]int{none}, n), groups: make([][]int, n)}
	for p := range uses {
		if s.met[p] == 0 {
			s.from(p)
		}
	}
	return s.parts
}

func (s *search) from(p int) {
	s.enter(p)
	for len(s.way) > 0 {
		last := &s.way[len(s.way)-1]
		if last.next == len(s.uses[last.place]) {
			s.leave()
			continue
		}
		used := s.uses[last.place][last.next]
		last.next++
		switch {
		case s.met[used] == 0:
			s.enter(used)
		case s.lowest[used] == none:
			last.back = min(last.back, s.met[used])
		}
	}
}

func (s *search) enter(p int) {
	s.now++
	s.met[p] = s.now
	s.way = append(s.way, visit{place: p, back: s.now})
	s.open = append(s.open, p)
}

// leave goes one step back, and hands on where that led back to.
func (s *search) leave() {
	end := len(s.way) - 1
	left := s.way[end]
	s.way = s.way[:end]
	if left.back == s.met[left.place] {
		s.group(left.place)
		return
	}
	// Whoever led back to an earlier one is not the first of the way.
	s.way[end-1].back = min(s.way[end-1].back, left.back)
}

// group makes a group of the open places from p on.
func (s *search) group(p int) {
	from := len(s.open) - 1
	for s.open[from] != p {
		from--
	}
	group := slices.Clone(s.open[from:])
	s.open = s.open[:from]
	slices.Sort(group)
	for _, q := range group {
		s.lowest[q] = group[0]
	}
	s.groups[group[0]] = group
}
