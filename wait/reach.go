package wait

import "slices"

// numbers tells the numbers of all edges, rising, each once. Where one stands there is its place: places are below each other as their numbers are, and lists can be asked by them.
func numbers(l []Edge) []int {
	var nums []int
	for _, e := range l {
		nums = append(nums, e.From, e.To)
	}
	slices.Sort(nums)
	return slices.Compact(nums)
}

// ways tells of each number's place the places to which its edges lead.
func ways(nums []int, l []Edge) [][]int {
	next := make([][]int, len(nums))
	for _, e := range l {
		from, _ := slices.BinarySearch(nums, e.From)
		to, _ := slices.BinarySearch(nums, e.To)
		next[from] = append(next[from], to)
	}
	return next
}

// turned tells the edges the other way round.
func turned(l []Edge) []Edge {
	var back []Edge
	for _, e := range l {
		back = append(back, Edge{From: e.To, To: e.From})
	}
	return back
}

// reached tells of each place up to last whether one edge or more lead there from a place, by way of places up to last alone.
func reached(next [][]int, from, last int) []bool {
	seen := make([]bool, last+1)
	missing := len(seen)
	list := []int{from}
walk:
	for i := 0; i < len(list); i++ {
		for _, to := range next[list[i]] {
			if to > last || seen[to] {
				continue
			}
			seen[to] = true
			list = append(list, to)
			missing--
			if missing == 0 {
				break walk // what is left of the list leads nowhere new
			}
		}
	}
	return seen
}
