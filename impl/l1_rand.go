// Package impl: messages handed on from keeper to keeper over links that are seldom there.
package impl

// Limits of mixing.
const (
	RandMax   = 65536
	MixBlocks = 6
	MixMaxNum = 999
)

// generator draws numbers, each from the one before it.
type generator struct {
	last int
}

// startGenerator passes over the number behind the seed: the document draws from that one on.
func startGenerator(seed int) generator {
	return generator{last: RandNext(seed)}
}

// drawBelow leaves out the four lowest bits, which repeat after 16 draws at the latest.
func (g *generator) drawBelow(limit int) int {
	g.last = RandNext(g.last)
	return g.last / 16 % limit
}

// degreeWeights says how often each degree is to come; no degree is 0, so that index stays empty.
type degreeWeights struct {
	weight [MixBlocks + 1]int
	sum    int
}

func weighDegrees(blocks int) degreeWeights {
	var w degreeWeights
	for degree := 1; degree <= blocks; degree++ {
		w.weight[degree] = degreeWeight(blocks, degree)
		w.sum += w.weight[degree]
	}
	return w
}

func degreeWeight(blocks int, degree int) int {
	if degree == 1 {
		return 60/blocks + 10
	}
	return 60 / (degree * (degree - 1))
}

// drawDegree ends because what is drawn is less than the sum of all weights.
func (w degreeWeights) drawDegree(drawBelow func(limit int) int) int {
	rest := drawBelow(w.sum)
	degree := 1
	for rest >= w.weight[degree] {
		rest -= w.weight[degree]
		degree++
	}
	return degree
}

// selection is which of a text's blocks are selected.
type selection struct {
	blocks   int
	selected [MixBlocks]bool
}

// add must not be called more often than there are blocks: it looks for a free one until it finds it.
func (s *selection) add(block int) {
	for s.selected[block] {
		block = (block + 1) % s.blocks
	}
	s.selected[block] = true
}

func (s *selection) ascending() []int {
	var list []int
	for block, selected := range s.selected {
		if selected {
			list = append(list, block)
		}
	}
	return list
}

func mixInRange(blocks int, num int) bool {
	return blocks >= 1 && blocks <= MixBlocks && num >= 0 && num <= MixMaxNum
}

// RandNext is the number behind a number.
func RandNext(x int) int {
	if x < 0 || x >= RandMax {
		return 0
	}
	return (25173*x + 13849) % RandMax
}

// MixDegree is of how many blocks a mixed one is.
func MixDegree(blocks int, num int) int {
	if !mixInRange(blocks, num) {
		return 0
	}
	if num < blocks {
		return 1
	}
	g := startGenerator(31*num + blocks)
	return weighDegrees(blocks).drawDegree(g.drawBelow)
}

// MixOf is which blocks a mixed one is of.
func MixOf(blocks int, num int) []int {
	if !mixInRange(blocks, num) {
		return nil
	}
	if num < blocks {
		return []int{num}
	}
	g := startGenerator(7*num + 1)
	s := selection{blocks: blocks}
	for range MixDegree(blocks, num) {
		s.add(g.drawBelow(blocks))
	}
	return s.ascending()
}
