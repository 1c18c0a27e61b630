package asm

import (
	"pennant/api"
	"pennant/isa"
)

// check is which item defines each label; an error, if base or an item is wrong, or a label is defined twice, or not at all.
func check(items []api.Item, base int) (map[string]int, api.Errno) {
	if base < 0 || base > api.MaxImage {
		return nil, api.ErrArg
	}
	for _, x := range items {
		if e := checkItem(x); e != api.OK {
			return nil, e
		}
	}
	labels := map[string]int{}
	for i, x := range items {
		if x.Kind != api.ILabel {
			continue
		}
		if _, twice := labels[x.Label]; twice {
			return nil, api.ErrTwice
		}
		labels[x.Label] = i
	}
	for _, x := range items {
		if _, defined := labels[x.Label]; refers(x.Kind) && !defined {
			return nil, api.ErrLabel
		}
	}
	return labels, api.OK
}

// checkItem looks at an item alone. It copies the fields that are relevant for the kind, because the others may be anything.
func checkItem(x api.Item) api.Errno {
	switch x.Kind {
	case api.IInst:
		return isa.Check(x.Inst)
	case api.IBranch:
		if Turned(x.Inst.Op) == 0 {
			return api.ErrInst
		}
		return isa.Check(api.Inst{Op: x.Inst.Op, A: x.Inst.A, B: x.Inst.B})
	case api.IJump, api.IAddr:
		return isa.Check(api.Inst{Op: isa.Jal, D: x.Inst.D})
	case api.ILabel, api.IWord, api.IRef, api.ISpace:
		return api.OK
	}
	return api.ErrForm
}

// refers reports whether items of this kind use a label.
func refers(kind int) bool {
	switch kind {
	case api.IBranch, api.IJump, api.IAddr, api.IRef:
		return true
	}
	return false
}
