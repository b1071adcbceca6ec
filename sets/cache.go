package sets

// A cache keeps results of operations. A result can take the place of another one, which then has to be computed again.
type cache struct {
	entries []entry
	puts    int // since there are this many entries
}

// An entry is a result of an operation. No result is kept for the operation without any fields, as its operands decide it.
type entry struct {
	operation
	result int32
}

// The numbers of entries; in between, there are as many as results have been put.
const (
	leastEntries = 1 << 6
	mostEntries  = 1 << 20
)

func newCache() cache { return cache{entries: make([]entry, leastEntries)} }

// at returns the entry in which the result of an operation can be.
func (c *cache) at(o operation) *entry {
	// The constants are odd and have no pattern in their bits, so that near numbers lead to entries far from one another.
	h := uint64(o.a)*0x9e3779b97f4a7c15 + uint64(o.b)*0xc2b2ae3d27d4eb4f + uint64(o.kind)*0x165667b19e3779f9
	return &c.entries[(h>>32)&uint64(len(c.entries)-1)]
}

// get returns the result of an operation, and whether it is kept.
func (c *cache) get(o operation) (int32, bool) {
	e := c.at(o)
	return e.result, e.operation == o
}

// put keeps the result of an operation.
func (c *cache) put(o operation, r int32) {
	if c.puts++; c.puts > len(c.entries) && len(c.entries) < mostEntries {
		c.grow()
	}
	*c.at(o) = entry{o, r}
}

// grow makes room for more results.
func (c *cache) grow() {
	old := c.entries
	c.entries = make([]entry, 4*len(old))
	c.puts = 0
	for _, e := range old {
		if e.operation != (operation{}) {
			*c.at(e.operation) = e
		}
	}
}
