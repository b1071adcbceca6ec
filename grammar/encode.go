package grammar

import "koine/api"

// A byte of a number has groupBits bits of it; continued is added to all bytes but the last.
const (
	groupBits = 7
	continued = 1 << groupBits
)

// Encode returns the bytes of a grammar.
func Encode(g api.Grammar) ([]byte, api.Errno) {
	if e := Check(g); e != api.OK {
		return nil, e
	}
	return encoding(g), api.OK
}

// encoding returns the encoding of a grammar, which need not be valid: negative numbers are written as the unsigned ones with the same bits. Grammars have the same encoding only if they are equal.
func encoding(g api.Grammar) []byte {
	w := newWriter()
	w.part(whole(&g))
	return w.bytes
}

// A writer writes the parts of an encoding, each one by the function for its kind.
type writer struct {
	bytes []byte
	write [kinds]func(p part)
}

func newWriter() *writer {
	w := &writer{}
	w.write = [kinds]func(p part){
		numberPart: w.number,
		boolPart:   w.truth,
		rankPart:   w.rank,
		textPart:   w.text,
		listPart:   w.list,
		structPart: w.fields,
	}
	return w
}

func (w *writer) part(p part) { w.write[p.kind](p) }

func (w *writer) number(p part) { w.put(uint64(*p.number)) }

func (w *writer) truth(p part) {
	if *p.truth {
		w.put(1)
	} else {
		w.put(0)
	}
}

func (w *writer) rank(p part) { w.put(uint64(*p.number + 1)) }

func (w *writer) text(p part) {
	w.put(uint64(len(*p.text)))
	w.bytes = append(w.bytes, *p.text...)
}

func (w *writer) list(p part) {
	w.put(uint64(p.length))
	for i := range p.length {
		w.part(p.element(i))
	}
}

func (w *writer) fields(p part) {
	for _, field := range p.fields {
		w.part(field)
	}
}

// put writes a number.
func (w *writer) put(n uint64) {
	for ; n >= continued; n >>= groupBits {
		w.bytes = append(w.bytes, byte(n)|continued)
	}
	w.bytes = append(w.bytes, byte(n))
}
