package asm

import (
	"pennant/api"
	"pennant/isa"
)

// scratch is the register by which the last forms reach their labels.
const scratch = 25

// words are the words of all items.
func (l *layout) words() []uint32 {
	end := len(l.items)
	out := make([]uint32, 0, l.at[end]-l.at[0])
	for i := range l.items {
		out = l.appendWords(out, i)
	}
	return out
}

// places are the labels, in order, with their addresses.
func (l *layout) places() []api.Place {
	var out []api.Place
	for i, x := range l.items {
		if x.Kind == api.ILabel {
			out = append(out, api.Place{Label: x.Label, At: l.at[i]})
		}
	}
	return out
}

// appendWords appends the words of item i.
func (l *layout) appendWords(out []uint32, i int) []uint32 {
	x := l.items[i]
	switch x.Kind {
	case api.IInst:
		return appendInsts(out, x.Inst)
	case api.IBranch:
		return appendInsts(out, l.branch(i)...)
	case api.IJump:
		return appendInsts(out, l.jump(i, x.Inst.D, l.forms[i])...)
	case api.IAddr:
		return appendInsts(out, load(x.Inst.D, uint32(l.target(i))+x.Word)...)
	case api.IWord:
		return append(out, x.Word)
	case api.IRef:
		return append(out, 4*uint32(l.target(i))+x.Word)
	case api.ISpace:
		return append(out, make([]uint32, x.Word)...)
	}
	return out
}

func appendInsts(out []uint32, insts ...api.Inst) []uint32 {
	for _, x := range insts {
		w, _ := isa.Encode(x) // no error: the items were checked, the forms fit
		out = append(out, w)
	}
	return out
}

// branch are the instructions of item i, a branch: behind its first form, the inverted one skips a jump.
func (l *layout) branch(i int) []api.Inst {
	x := l.items[i].Inst
	if l.forms[i] == leastForm {
		return []api.Inst{{Op: x.Op, A: x.A, B: x.B, Imm: l.distance(i)}}
	}
	over := l.jump(i, 0, l.forms[i]-1)
	skip := api.Inst{Op: Turned(x.Op), A: x.A, B: x.B, Imm: len(over)}
	return append([]api.Inst{skip}, over...)
}

// jump are the instructions of a jump, in a form, from the end of item i to its label; register d gets the address behind them.
func (l *layout) jump(i, d, form int) []api.Inst {
	if form == leastForm {
		return []api.Inst{{Op: isa.Jal, D: d, Imm: l.distance(i)}}
	}
	return append(load(scratch, uint32(l.target(i))), api.Inst{Op: isa.Jalr, D: d, A: scratch})
}

// load are the instructions by which register d becomes w.
func load(d int, w uint32) []api.Inst {
	return []api.Inst{
		{Op: isa.Lui, D: d, Imm: int(w >> 16)},
		{Op: isa.Ori, D: d, A: d, Imm: int(w & 0xffff)},
	}
}
