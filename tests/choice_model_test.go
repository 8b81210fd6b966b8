package tests

import (
	"cmp"
	"math/big"
	"slices"
)

// The model of chapter 5: means are made with big fractions by whatever tells
// who moves, and the fewest throws are found by trying all lists of throws, and
// with each one all ways to move.

// modelPair is a pair of tokens on their board.
type modelPair struct {
	squares int
	faces   int
	at      [2]int
}

func modelIsPair(squares int, faces int, a int, b int) bool {
	return 1 <= squares && squares <= 6 && 1 <= faces && faces <= 4 && 0 <= min(a, b) && max(a, b) <= squares
}

// modelPairs returns all pairs that there are.
func modelPairs() []modelPair {
	var pairs []modelPair
	for squares := 1; squares <= 6; squares++ {
		for faces := 1; faces <= 4; faces++ {
			for a := range squares + 1 {
				for b := range squares + 1 {
					pairs = append(pairs, modelPair{squares, faces, [2]int{a, b}})
				}
			}
		}
	}
	return pairs
}

func (p modelPair) done() bool { return p.at[0] == p.squares && p.at[1] == p.squares }

// left returns how many squares both tokens have before them.
func (p modelPair) left() int { return 2*p.squares - p.at[0] - p.at[1] }

func (p modelPair) moved(token int, face int) modelPair {
	p.at[token] += face
	return p
}

// moves returns the tokens that can move.
func (p modelPair) moves(face int) []int {
	var tokens []int
	for token := range 2 {
		if p.moved(token, face).at[token] <= p.squares {
			tokens = append(tokens, token)
		}
	}
	return tokens
}

// modelChoose tells which token moves where both can, knowing the mean behind
// each of both moves.
type modelChoose func(p modelPair, face int, means []*big.Rat) int

func chooseBest(_ modelPair, _ int, means []*big.Rat) int {
	if means[1].Cmp(means[0]) < 0 {
		return 1
	}
	return 0
}

func chooseWorst(_ modelPair, _ int, means []*big.Rat) int {
	if means[1].Cmp(means[0]) > 0 {
		return 1
	}
	return 0
}

func chooseLeader(p modelPair, _ int, _ []*big.Rat) int {
	if p.at[1] > p.at[0] {
		return 1
	}
	return 0
}

func chooseOther(p modelPair, _ int, _ []*big.Rat) int {
	if p.at[1] > p.at[0] {
		return 0
	}
	return 1
}

// modelPairMeans returns the means of all pairs on one board, from those that
// have the fewest squares before them on.
func modelPairMeans(squares int, faces int, choose modelChoose) map[modelPair]*big.Rat {
	pairs := slices.DeleteFunc(modelPairs(), func(p modelPair) bool { return p.squares != squares || p.faces != faces })
	slices.SortFunc(pairs, func(p modelPair, q modelPair) int { return cmp.Compare(p.left(), q.left()) })
	means := map[modelPair]*big.Rat{}
	for _, p := range pairs {
		means[p] = new(big.Rat)
		if p.done() {
			continue
		}
		var moving int64
		for face := 1; face <= faces; face++ {
			tokens := p.moves(face)
			if len(tokens) == 0 {
				continue
			}
			var behind []*big.Rat
			for _, token := range tokens {
				behind = append(behind, means[p.moved(token, face)])
			}
			k := 0
			if len(tokens) == 2 {
				k = choose(p, face, behind)
			}
			means[p].Add(means[p], behind[k])
			moving++
		}
		// A throw by which none can move is followed by the same again.
		means[p].Add(means[p], big.NewRat(int64(faces), 1))
		means[p].Mul(means[p], big.NewRat(1, moving))
	}
	return means
}

// modelBestMover returns the token that moves by best choices: -1 if none can.
func modelBestMover(p modelPair, face int, means map[modelPair]*big.Rat) int {
	tokens := p.moves(face)
	switch len(tokens) {
	case 0:
		return -1
	case 1:
		return tokens[0]
	}
	return chooseBest(p, face, []*big.Rat{means[p.moved(0, face)], means[p.moved(1, face)]})
}

// modelPlay returns the pairs at first and behind each throw by best choices.
func modelPlay(p modelPair, throws []int, means map[modelPair]*big.Rat) []modelPair {
	play := []modelPair{p}
	for _, face := range throws {
		if token := modelBestMover(p, face, means); token >= 0 {
			p = p.moved(token, face)
		}
		play = append(play, p)
	}
	return play
}

// next returns all that can come by a throw.
func (p modelPair) next(face int) []modelPair {
	var next []modelPair
	for _, token := range p.moves(face) {
		next = append(next, p.moved(token, face))
	}
	if next == nil {
		next = append(next, p)
	}
	return next
}

// modelCanBeDone tries all ways to move by a list of throws.
func modelCanBeDone(p modelPair, throws []int) bool {
	if len(throws) == 0 {
		return p.done()
	}
	return slices.ContainsFunc(p.next(throws[0]), func(q modelPair) bool { return modelCanBeDone(q, throws[1:]) })
}

// modelAllLists returns all lists of so many throws, in lexicographic order.
func modelAllLists(faces int, throws int) [][]int {
	if throws == 0 {
		return [][]int{nil}
	}
	var lists [][]int
	for _, list := range modelAllLists(faces, throws-1) {
		for face := 1; face <= faces; face++ {
			lists = append(lists, append(slices.Clone(list), face))
		}
	}
	return lists
}

// modelFewestLists returns all lists of the fewest throws with which a pair can
// be done, in lexicographic order.
func modelFewestLists(p modelPair) [][]int {
	for throws := 0; ; throws++ {
		lists := modelAllLists(p.faces, throws)
		lists = slices.DeleteFunc(lists, func(list []int) bool { return !modelCanBeDone(p, list) })
		if len(lists) > 0 {
			return lists
		}
	}
}

// modelPairStates adds what comes until nothing is new.
func modelPairStates(p modelPair) [][]int {
	states := []modelPair{p}
	for i := 0; i < len(states); i++ {
		for face := 1; face <= p.faces; face++ {
			for _, q := range states[i].next(face) {
				if !slices.Contains(states, q) {
					states = append(states, q)
				}
			}
		}
	}
	var rows [][]int
	for _, q := range states {
		rows = append(rows, []int{q.at[0], q.at[1]})
	}
	slices.SortFunc(rows, slices.Compare)
	return rows
}
