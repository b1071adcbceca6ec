package count

import (
	"koine/api"
	"koine/natural"
)

// tables computes with tables, each of which has a number for every configuration. As in a diagram, a table is an end, or a branch that leads to two other ones; equal tables are the same one. A set is the table that is 1 in its configurations and 0 in all others.
type tables struct {
	e       api.Errno
	entries []entry // by tables
	large   []bool  // by tables: whether a number is too large
	places  map[entry]int32
	numbers []api.Nat // by what ends have in low
	ends    map[string]int32
	results *memo[operation, int32]
	most    int // the number of entries that there can be while an operation is computed
}

// An entry is a table. An end has the condition end.
type entry struct{ condition, low, high int32 }

// end is greater than all conditions.
const end = api.MaxConditions

// The first ends. The last two are no numbers: what is too large, and what is not in question.
const (
	zero = iota
	one
	tooLarge
	outside
)

// An operation is one of two tables.
type operation struct{ kind, a, b int32 }

// The kinds of operations. The last two have a set as the second operand; the union has one as the first operand as well, and a restriction is a table that is outside where the set is not.
const (
	sum = iota
	product
	union
	restriction
)

// mostKept is the number of results that are kept, as they can be computed again.
const mostKept = 1 << 20

// mostAdded is the number of entries that an operation can add. With few conditions, it adds far less; with many ones, there can be more different numbers than could ever be listed.
const mostAdded = 1 << 22

func newTables() *tables {
	t := &tables{places: map[entry]int32{}, ends: map[string]int32{}}
	t.results = newMemo(t.combined)
	t.end(natural.Of(0))
	t.end(natural.Of(1))
	t.add(entry{condition: end, low: tooLarge}, true)
	t.add(entry{condition: end, low: outside}, false)
	t.numbers = append(t.numbers, nil, nil)
	return t
}

// add adds a table.
func (t *tables) add(x entry, large bool) int32 {
	t.entries, t.large = append(t.entries, x), append(t.large, large)
	return int32(len(t.entries) - 1)
}

// end returns the table that is a number everywhere.
func (t *tables) end(n api.Nat) int32 {
	key := make([]byte, 0, 4*len(n))
	for _, limb := range n {
		key = append(key, byte(limb), byte(limb>>8), byte(limb>>16), byte(limb>>24))
	}
	table, ok := t.ends[string(key)]
	if !ok {
		table = t.add(entry{condition: end, low: int32(len(t.numbers))}, false)
		t.numbers = append(t.numbers, n)
		t.ends[string(key)] = table
	}
	return table
}

// branch returns the table that is low without a condition and high with it.
func (t *tables) branch(condition, low, high int32) int32 {
	if low == high {
		return low
	}
	x := entry{condition, low, high}
	table, ok := t.places[x]
	if !ok {
		table = t.add(x, t.large[low] || t.large[high])
		t.places[x] = table
	}
	return table
}

// set returns the table of a valid set.
func (t *tables) set(d api.Diagram) int32 {
	list := append(make([]int32, 0, len(d.Nodes)+2), zero, one)
	for _, b := range d.Nodes {
		list = append(list, t.branch(int32(b.Var), list[b.Low], list[b.High]))
	}
	return list[d.Root]
}

// plus returns the sum of two tables.
func (t *tables) plus(a, b int32) int32 { return t.result(sum, a, b) }

// times returns the product of two tables.
func (t *tables) times(a, b int32) int32 { return t.result(product, a, b) }

// or returns the union of two sets.
func (t *tables) or(a, b int32) int32 { return t.result(union, a, b) }

// within returns a table that is outside where a set is not.
func (t *tables) within(a, set int32) int32 { return t.result(restriction, a, set) }

// result returns the result of an operation. It keeps an error.
func (t *tables) result(kind, a, b int32) int32 {
	if len(t.results.values) > mostKept {
		clear(t.results.values)
	}
	t.most = len(t.entries) + mostAdded
	return t.apply(operation{kind, a, b})
}

// apply returns the result of an operation, or zero if there is an error.
func (t *tables) apply(o operation) int32 {
	if len(t.entries) > t.most {
		t.e = api.ErrLarge
	}
	if t.e != api.OK {
		return zero
	}
	if r, ok := o.decided(); ok {
		return r
	}
	if o.kind != restriction && o.a > o.b {
		o.a, o.b = o.b, o.a
	}
	return t.results.of(o)
}

// decided returns the result if the operands alone decide it, and whether they do.
func (o operation) decided() (int32, bool) {
	switch o.kind {
	case sum:
		if o.a == zero {
			return o.b, true
		}
		return o.a, o.b == zero
	case product:
		if o.a == zero || o.b == zero {
			return zero, true
		}
		if o.a == one {
			return o.b, true
		}
		return o.a, o.b == one
	case union:
		if o.a == one || o.b == zero || o.a == o.b {
			return o.a, true
		}
		return o.b, o.b == one || o.a == zero
	}
	if o.b == zero {
		return outside, true
	}
	return o.a, o.b == one
}

// combined returns the result of an operation that its operands do not decide.
func (t *tables) combined(o operation) int32 {
	x, y := t.entries[o.a], t.entries[o.b]
	condition := min(x.condition, y.condition)
	if condition == end {
		return t.calculated(o)
	}
	low, high := o, o
	if x.condition == condition {
		low.a, high.a = x.low, x.high
	}
	if y.condition == condition {
		low.b, high.b = y.low, y.high
	}
	return t.branch(condition, t.apply(low), t.apply(high))
}

// calculated returns the sum or the product of two ends, neither of which is 0.
func (t *tables) calculated(o operation) int32 {
	if t.large[o.a] || t.large[o.b] {
		return tooLarge
	}
	calculate := natural.Mul
	if o.kind == sum {
		calculate = natural.Add
	}
	n, e := calculate(t.number(o.a), t.number(o.b))
	if e != api.OK {
		return tooLarge
	}
	return t.end(n)
}

// number returns the number of an end.
func (t *tables) number(table int32) api.Nat { return t.numbers[t.entries[table].low] }
