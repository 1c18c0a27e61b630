package datum

import (
	"strconv"

	"pennant/api"
	"pennant/lex"
)

// reader is tokens, and how many of them have been read.
type reader struct {
	tokens []api.Token
	at     int
}

// Read is the data of a source, or the first fault in it.
func Read(src []byte) ([]api.Datum, api.Fault) {
	tokens, f := lex.Lex(src)
	if f.Err != api.OK {
		return nil, f
	}
	r := reader{tokens: tokens}
	var data []api.Datum
	for r.at < len(r.tokens) {
		t := r.tokens[r.at]
		r.at++
		d, f := r.datum(t, 0)
		if f.Err != api.OK {
			return nil, f
		}
		data = append(data, d)
	}
	return data, api.Fault{}
}

// take is the next token; if there is none, what the token open began has no end.
func (r *reader) take(open api.Token) (api.Token, api.Fault) {
	if r.at == len(r.tokens) {
		return api.Token{}, wrongAt(open)
	}
	t := r.tokens[r.at]
	r.at++
	return t, api.Fault{}
}

// datum reads the datum that begins with the token t, at this depth.
func (r *reader) datum(t api.Token, depth int) (api.Datum, api.Fault) {
	switch t.Kind {
	case api.TokDatum:
		return t.Datum, api.Fault{}
	case api.TokClose, api.TokDot:
		return api.Datum{}, wrongAt(t)
	}
	if depth >= api.MaxDepth {
		return api.Datum{}, api.Fault{Err: api.ErrDepth, Pos: t.Pos}
	}
	switch t.Kind {
	case api.TokQuote:
		return r.quote(t, depth)
	case api.TokVector:
		return r.vector(t, depth)
	case api.TokBytes:
		return r.bytes(t)
	}
	return r.list(t, depth)
}

// inside reads the one datum that is inside what the token open began.
func (r *reader) inside(open api.Token, depth int) (api.Datum, api.Fault) {
	t, f := r.take(open)
	if f.Err != api.OK {
		return api.Datum{}, f
	}
	return r.datum(t, depth+1)
}

// quote reads what is quoted by the token mark, at this depth.
func (r *reader) quote(mark api.Token, depth int) (api.Datum, api.Fault) {
	d, f := r.inside(mark, depth)
	if f.Err != api.OK {
		return api.Datum{}, f
	}
	symbol := api.Datum{Kind: api.DSymbol, Text: "quote", Pos: mark.Pos}
	return chain([]api.Datum{symbol, d}, api.Datum{Kind: api.DNil, Pos: d.Pos}), api.Fault{}
}

// items reads the data inside what the token open began, up to the TokClose or TokDot behind them, which it answers, too.
func (r *reader) items(open api.Token, depth int) (l []api.Datum, stop api.Token, f api.Fault) {
	for {
		t, f := r.take(open)
		if f.Err != api.OK {
			return nil, api.Token{}, f
		}
		if t.Kind == api.TokClose || t.Kind == api.TokDot {
			return l, t, api.Fault{}
		}
		d, f := r.datum(t, depth+1)
		if f.Err != api.OK {
			return nil, api.Token{}, f
		}
		l = append(l, d)
	}
}

// list reads the rest of the list that the token open began, at this depth.
func (r *reader) list(open api.Token, depth int) (api.Datum, api.Fault) {
	l, stop, f := r.items(open, depth)
	if f.Err != api.OK {
		return api.Datum{}, f
	}
	end := api.Datum{Kind: api.DNil, Pos: stop.Pos}
	if stop.Kind == api.TokDot {
		if len(l) == 0 {
			return api.Datum{}, wrongAt(stop)
		}
		if end, f = r.end(open, depth); f.Err != api.OK {
			return api.Datum{}, f
		}
	}
	list := chain(l, end)
	list.Pos = open.Pos
	return list, api.Fault{}
}

// end reads what follows the TokDot of a list: its end, and its TokClose.
func (r *reader) end(open api.Token, depth int) (api.Datum, api.Fault) {
	d, f := r.inside(open, depth)
	if f.Err != api.OK {
		return api.Datum{}, f
	}
	t, f := r.take(open)
	if f.Err != api.OK {
		return api.Datum{}, f
	}
	if t.Kind != api.TokClose {
		return api.Datum{}, wrongAt(t)
	}
	return d, api.Fault{}
}

// vector reads the rest of the vector that the token open began, at this depth.
func (r *reader) vector(open api.Token, depth int) (api.Datum, api.Fault) {
	l, stop, f := r.items(open, depth)
	if f.Err != api.OK {
		return api.Datum{}, f
	}
	if stop.Kind != api.TokClose {
		return api.Datum{}, wrongAt(stop)
	}
	return api.Datum{Kind: api.DVector, Kids: l, Pos: open.Pos}, api.Fault{}
}

// bytes reads the rest of the byte vector that the token open began.
func (r *reader) bytes(open api.Token) (api.Datum, api.Fault) {
	var b []byte
	for {
		t, f := r.take(open)
		if f.Err != api.OK {
			return api.Datum{}, f
		}
		if t.Kind == api.TokClose {
			return api.Datum{Kind: api.DBytes, Text: string(b), Pos: open.Pos}, api.Fault{}
		}
		n, known := byteOf(t)
		if !known {
			return api.Datum{}, wrongAt(t)
		}
		b = append(b, n)
	}
}

// byteOf is the integer from 0 to 255 that a token is, and whether it is one.
func byteOf(t api.Token) (n byte, known bool) {
	if t.Kind != api.TokDatum || t.Datum.Kind != api.DInt {
		return 0, false
	}
	value, err := strconv.ParseUint(t.Datum.Text, 10, 8)
	if err != nil {
		return 0, false
	}
	return byte(value), true
}

// wrongAt is ErrSyntax at this token.
func wrongAt(t api.Token) api.Fault {
	return api.Fault{Err: api.ErrSyntax, Pos: t.Pos}
}
