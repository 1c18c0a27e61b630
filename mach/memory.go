package mach

import (
	"pennant/api"
	"pennant/isa"
)

const pageWords = 1 << 10

// memory is words in pages, of which those that were never written are missing: a large memory costs no more than the part of it that is in use.
type memory struct {
	size  uint32
	pages []*page
}

// page is some words in sequence, and what those were decoded to that were executed.
type page struct {
	words [pageWords]uint32
	insts *[pageWords]inst
}

// inst is a word, and the instruction with this word; its op is 0 if there is none. The word tells whether it still is the one in the memory, so that nobody has to take note of writes.
type inst struct {
	word, imm   uint32
	op, d, a, b uint8
}

func newMemory(words []uint32, size int) memory {
	m := memory{size: uint32(size), pages: make([]*page, (size+pageWords-1)/pageWords)}
	for i := 0; len(words) > 0; i++ {
		m.pages[i] = new(page)
		words = words[copy(m.pages[i].words[:], words):]
	}
	return m
}

// load is the word at an address of the memory.
func (m *memory) load(at uint32) uint32 {
	p := m.pages[at/pageWords]
	if p == nil {
		return 0
	}
	return p.words[at%pageWords]
}

// store makes w the word at an address of the memory.
func (m *memory) store(at, w uint32) {
	p := m.pages[at/pageWords]
	if p == nil {
		p = new(page)
		m.pages[at/pageWords] = p
	}
	p.words[at%pageWords] = w
}

// fetch is what the word at an address of the memory is decoded to.
func (m *memory) fetch(at uint32) *inst {
	p := m.pages[at/pageWords]
	if p == nil {
		return &inst{}
	}
	if p.insts == nil {
		p.insts = new([pageWords]inst)
	}
	x := &p.insts[at%pageWords]
	if w := p.words[at%pageWords]; x.word != w {
		*x = decoded(w)
	}
	return x
}

func decoded(w uint32) inst {
	x, e := isa.Decode(w)
	if e != api.OK {
		return inst{word: w}
	}
	return inst{word: w, imm: uint32(x.Imm), op: uint8(x.Op), d: uint8(x.D), a: uint8(x.A), b: uint8(x.B)}
}

// copied is an equal memory that shares nothing with this one.
func (m *memory) copied() memory {
	c := memory{size: m.size, pages: make([]*page, len(m.pages))}
	for i, p := range m.pages {
		if p != nil {
			c.pages[i] = &page{words: p.words}
		}
	}
	return c
}
