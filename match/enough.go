package match

import "slices"

// enough reports whether each entry of a table's pattern that is left can take another one, if they are looked at one by one, as if they had no variables in common.
func (m matcher) enough(b binding, x *table) bool {
	s := spread{can: map[int][]int{}, taker: map[int]int{}}
	for _, i := range x.mineLeft {
		for _, j := range x.itsLeft {
			if _, ok := m.assign(slices.Clone(b), x, i, j); ok {
				s.can[i] = append(s.can[i], j)
			}
		}
		if !s.take(i, map[int]bool{}) {
			return false
		}
	}
	return true
}

// spread gives to each of some takers one of the things that it can take, and to no two the same.
type spread struct {
	can   map[int][]int // what each taker can take
	taker map[int]int   // of each thing that is taken
}

// take reports whether a taker gets something. What others have is theirs only as long as there is something else for them: that is asked once for each thing.
func (s spread) take(i int, asked map[int]bool) bool {
	for _, j := range s.can[i] {
		if asked[j] {
			continue
		}
		asked[j] = true
		other, isTaken := s.taker[j]
		if !isTaken || s.take(other, asked) {
			s.taker[j] = i
			return true
		}
	}
	return false
}
