package tests

import (
	"math/big"

	"loop.example/g01306/impl"
)

// The model of chapter 2: all lists of throws are tried one by one where they
// are few, and are counted backwards from the last throw where they are many.

// modelTrip is what one list of throws does with a token.
type modelTrip struct {
	path  []int
	bites int
}

func (trip modelTrip) end() int { return trip.path[len(trip.path)-1] }

// modelBite reports whether a throw leads to a square at which a snake begins.
func modelBite(b impl.Board, square int, face int) bool {
	bare := b
	bare.Jumps = nil
	at := modelLanding(bare, square, face)
	for _, j := range b.Jumps {
		if j.From == at && j.To < j.From {
			return true
		}
	}
	return false
}

// modelTrips returns the trips of all lists of so many throws.
func modelTrips(b impl.Board, square int, throws int) []modelTrip {
	if throws == 0 {
		return []modelTrip{{path: []int{square}}}
	}
	var trips []modelTrip
	for _, trip := range modelTrips(b, square, throws-1) {
		for face := 1; face <= b.Faces; face++ {
			longer := modelTrip{bites: trip.bites}
			longer.path = append(append(longer.path, trip.path...), modelLanding(b, trip.end(), face))
			if modelBite(b, trip.end(), face) {
				longer.bites++
			}
			trips = append(trips, longer)
		}
	}
	return trips
}

// modelBackwards returns for each square the sum, over all lists of so many
// throws from there, of what each throw and at last each end is worth. A square
// at which it is told to halt is worth as much for each list.
func modelBackwards(b impl.Board, throws int, end func(square int) int64, throw func(square int, face int) int64, halt int) []*big.Int {
	worth := make([]*big.Int, b.Squares+1)
	for square := range worth {
		worth[square] = big.NewInt(end(square))
	}
	for n := range throws {
		lists := modelPower(b.Faces, n)
		next := make([]*big.Int, b.Squares+1)
		for square := range next {
			next[square] = new(big.Int)
			for face := 1; face <= b.Faces; face++ {
				to := modelLanding(b, square, face)
				if square == halt {
					to = square
				}
				next[square].Add(next[square], worth[to])
				next[square].Add(next[square], new(big.Int).Mul(lists, big.NewInt(throw(square, face))))
			}
		}
		worth = next
	}
	return worth
}

func modelPower(x int, n int) *big.Int {
	return new(big.Int).Exp(big.NewInt(int64(x)), big.NewInt(int64(n)), nil)
}

func noWorth(int, int) int64 { return 0 }

// modelListsTo returns for each square how many lists of so many throws lead
// from it to another one.
func modelListsTo(b impl.Board, to int, throws int) []*big.Int {
	return modelBackwards(b, throws, worthAt(to), noWorth, -1)
}

// modelListsMeeting returns for each square how many lists of so many throws
// lead from it over another one.
func modelListsMeeting(b impl.Board, to int, throws int) []*big.Int {
	return modelBackwards(b, throws, worthAt(to), noWorth, to)
}

func worthAt(to int) func(square int) int64 {
	return func(square int) int64 {
		if square == to {
			return 1
		}
		return 0
	}
}

// modelSquaresSum returns for each square the sum of those that all lists of so
// many throws lead to.
func modelSquaresSum(b impl.Board, throws int) []*big.Int {
	return modelBackwards(b, throws, func(square int) int64 { return int64(square) }, noWorth, -1)
}

// modelBites returns for each square how many snakes all lists of so many
// throws go by.
func modelBites(b impl.Board, throws int) []*big.Int {
	bite := func(square int, face int) int64 {
		if !modelBegins(b, square) && modelBite(b, square, face) {
			return 1
		}
		return 0
	}
	return modelBackwards(b, throws, func(int) int64 { return 0 }, bite, -1)
}
