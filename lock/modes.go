package lock

import "palimpsest/api"

const (
	none  = 0          // stands for every number that is no mode
	count = api.LX + 1 // the modes, and none
)

// standing is how a mode stands to each: with which of them another transaction may hold it, and what it becomes beside them.
type standing struct {
	fits [count]bool
	join [count]int
}

// modes tells how each mode stands to each.
func modes() [count]standing {
	const is, ix, s, six, x = api.LIS, api.LIX, api.LS, api.LSIX, api.LX
	return [count]standing{
		none: {join: [count]int{none, is, ix, s, six, x}},
		is:   {join: [count]int{is, is, ix, s, six, x}, fits: [count]bool{is: true, ix: true, s: true, six: true}},
		ix:   {join: [count]int{ix, ix, ix, six, six, x}, fits: [count]bool{is: true, ix: true}},
		s:    {join: [count]int{s, s, six, s, six, x}, fits: [count]bool{is: true, s: true}},
		six:  {join: [count]int{six, six, six, six, six, x}, fits: [count]bool{is: true}},
		x:    {join: [count]int{x, x, x, x, x, x}},
	}
}

// Fits tells whether two transactions may hold a and b on one name at one time.
func Fits(a, b int) bool {
	return modes()[known(a)].fits[known(b)]
}

// Join tells the least mode that is at least a and b.
func Join(a, b int) int {
	return modes()[known(a)].join[known(b)]
}

// known tells n, if it is a mode.
func known(n int) int {
	if n < api.LIS || n > api.LX {
		return none
	}
	return n
}
