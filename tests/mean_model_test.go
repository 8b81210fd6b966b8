package tests

import (
	"math/big"
	"math/rand"
	"slices"

	"loop.example/g01306/impl"
)

// The model of chapter 3: each mean is told by what one throw and the means
// behind it make of it, and these equations are solved with big fractions.

// modelHasMean reports whether each square that is reached leads to the end.
func modelHasMean(b impl.Board, square int) bool {
	return !slices.ContainsFunc(modelReached(b, square), func(at int) bool { return modelFewest(b, at) < 0 })
}

// modelWithMean returns all squares that have a mean.
func modelWithMean(b impl.Board) []int {
	var squares []int
	for square := range b.Squares + 1 {
		if modelHolds(b, square) && modelHasMean(b, square) {
			squares = append(squares, square)
		}
	}
	return squares
}

// modelMeans returns for each square that has a mean that of the sum of what
// the throws are worth. On a square that is told to halt, and at the end, the
// token stays for good, and that is worth what is told.
func modelMeans(b impl.Board, worth func(square int, face int) bool, halts map[int]int64) map[int]*big.Rat {
	squares := modelWithMean(b)
	rows := make([][]*big.Rat, len(squares))
	for i, square := range squares {
		rows[i] = make([]*big.Rat, len(squares)+1)
		for j := range rows[i] {
			rows[i][j] = new(big.Rat)
		}
		rows[i][i].SetInt64(1)
		n, halted := halts[square]
		rows[i][len(squares)].SetInt64(n)
		if halted || square == b.Squares {
			continue
		}
		chance := big.NewRat(1, int64(b.Faces))
		for face := 1; face <= b.Faces; face++ {
			j := slices.Index(squares, modelLanding(b, square, face))
			rows[i][j].Sub(rows[i][j], chance)
			if worth(square, face) {
				rows[i][len(squares)].Add(rows[i][len(squares)], chance)
			}
		}
	}
	modelSolve(rows)
	means := map[int]*big.Rat{}
	for i, square := range squares {
		means[square] = rows[i][len(squares)]
	}
	return means
}

// modelSolve lets the last number of each row be the solution for it.
func modelSolve(rows [][]*big.Rat) {
	for i := range rows {
		pivot := i
		for rows[pivot][i].Sign() == 0 {
			pivot++
		}
		rows[i], rows[pivot] = rows[pivot], rows[i]
		one := new(big.Rat).Inv(rows[i][i])
		for j := range rows[i] {
			rows[i][j].Mul(rows[i][j], one)
		}
		for k := range rows {
			if k == i || rows[k][i].Sign() == 0 {
				continue
			}
			times := new(big.Rat).Set(rows[k][i])
			for j := range rows[k] {
				rows[k][j].Sub(rows[k][j], new(big.Rat).Mul(times, rows[i][j]))
			}
		}
	}
}

func modelMeanThrows(b impl.Board) map[int]*big.Rat {
	return modelMeans(b, func(int, int) bool { return true }, nil)
}

func modelMeanVisits(b impl.Board, square int) map[int]*big.Rat {
	return modelMeans(b, func(at int, _ int) bool { return at == square }, nil)
}

func modelMeet(b impl.Board, square int) map[int]*big.Rat {
	return modelMeans(b, func(int, int) bool { return false }, map[int]int64{square: 1})
}

func modelStays(b impl.Board) map[int]*big.Rat {
	return modelMeans(b, func(at int, face int) bool { return modelLanding(b, at, face) == at }, nil)
}

// modelMeanJumps looks for a jump where a throw leads without any jumps.
func modelMeanJumps(b impl.Board, k int) map[int]*big.Rat {
	bare := b
	bare.Jumps = nil
	return modelMeans(b, func(at int, face int) bool { return modelLanding(bare, at, face) == b.Jumps[k].From }, nil)
}

// modelLongest returns the square with the greatest mean: -1 if one has none.
func modelLongest(b impl.Board) int {
	means := modelMeanThrows(b)
	longest := -1
	for square := range b.Squares + 1 {
		if !modelHolds(b, square) {
			continue
		}
		if means[square] == nil {
			return -1
		}
		if longest < 0 || means[square].Cmp(means[longest]) > 0 {
			longest = square
		}
	}
	return longest
}

// modelLikeliest returns the square that is met with the greatest chance: -1 if
// there is none.
func modelLikeliest(b impl.Board, from int) int {
	likeliest, greatest := -1, big.NewRat(-1, 1)
	for square := range b.Squares {
		if square == from || !modelHolds(b, square) {
			continue
		}
		if chance := modelMeet(b, square)[from]; chance.Cmp(greatest) > 0 {
			likeliest, greatest = square, chance
		}
	}
	return likeliest
}

// modelBestAdded puts each ladder in, one after the other: the mean is nil if
// there is none.
func modelBestAdded(b impl.Board) (impl.Jump, *big.Rat) {
	var best impl.Jump
	var least *big.Rat
	for from := 1; from < b.Squares; from++ {
		for to := from + 1; to <= b.Squares; to++ {
			if modelBegins(b, from) || modelEnds(b, from) || modelBegins(b, to) {
				continue
			}
			with := b
			with.Jumps = append(slices.Clone(b.Jumps), impl.Jump{From: from, To: to})
			if mean := modelMeanThrows(with)[0]; mean != nil && (least == nil || mean.Cmp(least) < 0) {
				best, least = impl.Jump{From: from, To: to}, mean
			}
		}
	}
	return best, least
}

// modelBestDropped takes each jump out, one after the other.
func modelBestDropped(b impl.Board) (int, *big.Rat) {
	best := 0
	var least *big.Rat
	for k, j := range b.Jumps {
		without := b
		without.Jumps = slices.Delete(slices.Clone(b.Jumps), k, k+1)
		if mean := modelMeanThrows(without)[0]; mean != nil && (least == nil || mean.Cmp(least) < 0) {
			best, least = j.From, mean
		}
	}
	return best, least
}

// meanBoards returns boards of up to 9 squares with up to 8 jumps, always the
// same ones.
func meanBoards(count int, seed int64) []impl.Board {
	r := rand.New(rand.NewSource(seed))
	boards := make([]impl.Board, 0, count)
	for range count {
		b := impl.Board{Squares: 9 - r.Intn(9)*r.Intn(2), Faces: 1 + r.Intn(8), Over: r.Intn(3)}
		boards = append(boards, jumpsPutIn(r, b, r.Intn(12)))
	}
	return boards
}
