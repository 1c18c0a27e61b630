package asm

import (
	"slices"

	"pennant/api"
)

// leastForm is the first form of a branch or a jump; all other items have the form 0.
const leastForm = 1

// How far the Imm of a branch, and that of jal, leads: back by so many words, ahead by one less.
const (
	branchReach = 1 << 15
	jumpReach   = 1 << 20
)

// layout is items, the forms that their branches and jumps have so far, and where the items stand.
type layout struct {
	items  []api.Item
	labels map[string]int // which item defines a label
	forms  []int
	at     []int   // the address of each item, and of the end, when they were settled
	extra  tallies // how many words each item has got since then
	total  int     // how many all items have got
	due    []int   // below which total an item fits for certain
}

// newLayout is items of which every branch and jump has its least form.
func newLayout(items []api.Item, labels map[string]int, base int) *layout {
	l := &layout{items: items, labels: labels, forms: make([]int, len(items)), due: make([]int, len(items))}
	for i, x := range items {
		if isTurn(x.Kind) {
			l.forms[i] = leastForm
		}
	}
	l.settle(base)
	return l
}

// isTurn reports whether items of this kind have forms.
func isTurn(kind int) bool { return kind == api.IBranch || kind == api.IJump }

// settle works the addresses out from the forms.
func (l *layout) settle(base int) {
	l.at = make([]int, 0, len(l.items)+1)
	for i, x := range l.items {
		l.at = append(l.at, base)
		base += size(x, l.forms[i])
	}
	l.at = append(l.at, base)
	l.extra = make(tallies, len(l.items)+1)
}

// address is where item i stands by now (the end, for the number behind the last item).
func (l *layout) address(i int) int { return l.at[i] + l.extra.before(i) }

// target is the address of the label that item i uses.
func (l *layout) target(i int) int { return l.address(l.labels[l.items[i].Label]) }

// distance is the Imm with which the last word of item i would lead to its label: a form that has an Imm has it there.
func (l *layout) distance(i int) int { return l.target(i) - l.address(i+1) }

// grow gives each branch and jump the least form of all choices that fit. Growing takes no label nearer to anything, so that what does not fit now would not fit in any choice with greater forms either.
func (l *layout) grow() {
	var turns []int
	for i, x := range l.items {
		if isTurn(x.Kind) {
			turns = append(turns, i)
		}
	}
growing:
	for {
		// Each round goes the other way: in a long chain, where each one that grows makes its neighbour grow, one of the two ways takes all of it in one round.
		slices.Reverse(turns)
		grown := false
		for _, i := range turns {
			if l.raise(i) {
				grown = true
			}
		}
		if !grown {
			break growing
		}
	}
}

// raise gives item i the least form that fits by now; it reports whether that is another one.
func (l *layout) raise(i int) bool {
	first := l.forms[i]
	for !l.fits(i) {
		l.lengthen(i)
	}
	return l.forms[i] != first
}

// lengthen gives item i its next form.
func (l *layout) lengthen(i int) {
	words := -size(l.items[i], l.forms[i])
	l.forms[i]++
	words += size(l.items[i], l.forms[i])
	l.extra.add(i, words)
	l.total += words
}

// fits reports whether item i reaches its label in the form that it has. It does not measure again what has room for all that has grown since.
func (l *layout) fits(i int) bool {
	if l.total < l.due[i] {
		return true
	}
	far := reach(l.items[i], l.forms[i])
	if far == 0 {
		return true
	}
	d := l.distance(i)
	if d < 0 {
		d = -d - 1
	}
	if d >= far {
		return false
	}
	l.due[i] = l.total + far - d
	return true
}

// reach is how far an item leads in a form; 0, if it leads everywhere.
func reach(x api.Item, form int) int {
	switch {
	case x.Kind == api.IBranch && form == leastForm:
		return branchReach
	case x.Kind == api.IBranch && form == leastForm+1, x.Kind == api.IJump && form == leastForm:
		return jumpReach
	}
	return 0
}

// size is how many words an item has in a form.
func size(x api.Item, form int) int {
	switch x.Kind {
	case api.ILabel:
		return 0
	case api.IBranch:
		return branchSize(form)
	case api.IJump:
		return jumpSize(form)
	case api.IAddr:
		return 2
	case api.ISpace:
		return int(x.Word)
	}
	return 1
}

func jumpSize(form int) int {
	if form == leastForm {
		return 1
	}
	return 3
}

// branchSize counts, behind the first form, the inverted branch and the jump that it skips, whose form is the one below.
func branchSize(form int) int {
	if form == leastForm {
		return 1
	}
	return 1 + jumpSize(form-1)
}
