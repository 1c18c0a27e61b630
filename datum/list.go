package datum

import (
	"slices"

	"pennant/api"
)

// List is the list of these data with this end.
func List(l []api.Datum, end api.Datum) api.Datum {
	return chain(freshAll(l), fresh(end))
}

// Items is the data of the longest list that d is, and its end.
func Items(d api.Datum) (l []api.Datum, end api.Datum) {
	for isPair(d) {
		l = append(l, fresh(d.Kids[0]))
		d = d.Kids[1]
	}
	return l, fresh(d)
}

// chain is the list of these data with this end, which are in it as they are: whoever calls it gives them away.
func chain(l []api.Datum, end api.Datum) api.Datum {
	for _, d := range slices.Backward(l) {
		end = api.Datum{Kind: api.DPair, Kids: []api.Datum{d, end}, Pos: d.Pos}
	}
	return end
}

// fresh is a copy of d that shares no memory with it.
func fresh(d api.Datum) api.Datum {
	last := &d
	for isPair(*last) {
		last.Kids = []api.Datum{fresh(last.Kids[0]), last.Kids[1]}
		last = &last.Kids[1]
	}
	last.Kids = freshAll(last.Kids)
	return d
}

// freshAll is copies of these data that share no memory with them.
func freshAll(l []api.Datum) []api.Datum {
	if len(l) == 0 {
		return nil
	}
	copies := make([]api.Datum, len(l))
	for i, d := range l {
		copies[i] = fresh(d)
	}
	return copies
}
