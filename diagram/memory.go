package diagram

// fewCells is the number of cells up to which a list of all of them is cheap.
const fewCells = 1 << 12

// cellsInMap is about the number of cells that take as much space in a list as one cell takes in a map.
const cellsInMap = 8

// A memory keeps a result for each of the cells that are put into it. It is a map while these are few of all cells, and then a list, in which 0 stands for no result.
type memory struct {
	cells  int
	places map[int]int32
	list   []int32
}

func newMemory(cells int) memory {
	if cells <= fewCells {
		return memory{cells: cells, list: make([]int32, cells)}
	}
	return memory{cells: cells, places: make(map[int]int32)}
}

// get returns the result of a cell, and whether there is one.
func (m *memory) get(cell int) (int, bool) {
	if m.list != nil {
		return int(m.list[cell]) - 1, m.list[cell] != 0
	}
	r, ok := m.places[cell]
	return int(r), ok
}

// put keeps the result of a cell.
func (m *memory) put(cell, r int) {
	if m.list == nil && len(m.places) >= m.cells/cellsInMap {
		m.list = make([]int32, m.cells)
		for cell, r := range m.places {
			m.list[cell] = r + 1
		}
		m.places = nil
	}
	if m.list != nil {
		m.list[cell] = int32(r) + 1
		return
	}
	m.places[cell] = int32(r)
}
