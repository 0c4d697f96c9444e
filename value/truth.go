package value

import "palimpsest/api"

// What is not known stands between false and true: so And is the lesser of two, Or the greater, and Not turns the order round.
const (
	no = iota
	unknown
	yes
)

// And tells whether both are true.
func And(a, b api.Value) (api.Value, api.Errno) {
	if _, e := known(api.TBool, a, b); e != api.OK {
		return api.Value{}, e
	}
	return truth(min(level(a), level(b))), api.OK
}

// Or tells whether one is true.
func Or(a, b api.Value) (api.Value, api.Errno) {
	if _, e := known(api.TBool, a, b); e != api.OK {
		return api.Value{}, e
	}
	return truth(max(level(a), level(b))), api.OK
}

// Not tells whether it is false.
func Not(a api.Value) (api.Value, api.Errno) {
	if _, e := known(api.TBool, a); e != api.OK {
		return api.Value{}, e
	}
	return truth(yes - level(a)), api.OK
}

func level(v api.Value) int {
	switch {
	case v.Type == api.TNull:
		return unknown
	case v.Bool:
		return yes
	}
	return no
}

func truth(level int) api.Value {
	if level == unknown {
		return api.Value{}
	}
	return api.Value{Type: api.TBool, Bool: level == yes}
}
