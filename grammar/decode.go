package grammar

import "koine/api"

// maxGroups is the number of bytes of the greatest int.
const maxGroups = 9

// Decode returns the grammar of some bytes.
func Decode(b []byte) (api.Grammar, api.Errno) {
	var g api.Grammar
	r := newReader(b)
	r.part(whole(&g))
	if r.failed || len(r.rest) > 0 || Check(g) != api.OK {
		return api.Grammar{}, api.ErrForm
	}
	return g, api.OK
}

// A reader reads the parts of an encoding, each one by the function for its kind. When it has failed, all further numbers are 0.
type reader struct {
	rest   []byte
	failed bool
	read   [kinds]func(p part)
}

func newReader(b []byte) *reader {
	r := &reader{rest: b}
	r.read = [kinds]func(p part){
		numberPart: r.number,
		boolPart:   r.truth,
		rankPart:   r.rank,
		textPart:   r.text,
		listPart:   r.list,
		structPart: r.fields,
	}
	return r
}

func (r *reader) part(p part) { r.read[p.kind](p) }

func (r *reader) number(p part) { *p.number = r.next() }

func (r *reader) truth(p part) {
	n := r.next()
	*p.truth = n == 1
	if n > 1 {
		r.fail()
	}
}

func (r *reader) rank(p part) { *p.number = r.next() - 1 }

func (r *reader) text(p part) {
	n := r.next()
	if n > len(r.rest) {
		r.fail()
		return
	}
	*p.text = string(r.rest[:n])
	r.rest = r.rest[n:]
}

func (r *reader) list(p part) {
	n := r.next()
	for i := 0; i < n && !r.failed; i++ {
		r.part(p.element(i))
	}
}

func (r *reader) fields(p part) {
	for _, field := range p.fields {
		r.part(field)
	}
}

// next reads a number.
func (r *reader) next() int {
	n := 0
	for i, b := range r.rest {
		if i == maxGroups || i > 0 && b == 0 {
			break
		}
		n |= int(b%continued) << (i * groupBits)
		if b < continued {
			r.rest = r.rest[i+1:]
			return n
		}
	}
	r.fail()
	return 0
}

// fail makes all further reading fail, too.
func (r *reader) fail() {
	r.failed = true
	r.rest = nil
}
