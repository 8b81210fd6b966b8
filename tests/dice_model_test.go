package tests

import (
	"math/big"
	"slices"
)

// A slow model of chapter 6: small numbers of dice by all their throws, others
// by the faces one after the other.

// modelDice are dice that are thrown together.
type modelDice struct {
	dice  int
	faces int
}

// modelAllDice returns all numbers of dice and of faces that there are.
func modelAllDice() []modelDice {
	var all []modelDice
	for dice := 1; dice <= 8; dice++ {
		for faces := 1; faces <= 12; faces++ {
			all = append(all, modelDice{dice, faces})
		}
	}
	return all
}

// throws returns how many throws there are.
func (d modelDice) throws() int {
	return int(modelPower(d.faces, d.dice).Int64())
}

// few reports whether there are so few throws that all can be looked at.
func (d modelDice) few() bool { return d.throws() <= 5000 }

// count looks at all throws.
func (d modelDice) count(wanted func(throw []int) bool) int {
	throws := 0
	for _, throw := range modelAllLists(d.faces, d.dice) {
		if wanted(throw) {
			throws++
		}
	}
	return throws
}

// modelSum adds up some greatest faces of a throw.
func modelSum(throw []int, kept int) int {
	faces := slices.Sorted(slices.Values(throw))
	sum := 0
	for _, face := range faces[len(faces)-kept:] {
		sum += face
	}
	return sum
}

// modelTimes returns how often the face that comes most often comes.
func modelTimes(throw []int) int {
	times := map[int]int{}
	most := 0
	for _, face := range throw {
		times[face]++
		most = max(most, times[face])
	}
	return most
}

// modelHasRun reports whether some face and those behind it come.
func modelHasRun(throw []int, run int) bool {
	for _, first := range throw {
		all := true
		for face := first; face < first+run; face++ {
			all = all && slices.Contains(throw, face)
		}
		if all {
			return true
		}
	}
	return false
}

// modelChosen returns in how many ways some of all dice can be chosen.
func modelChosen(all int, some int) int {
	return int(new(big.Int).Binomial(int64(all), int64(some)).Int64())
}

// modelKept returns of how many throws the greatest dice have each sum, by the
// number of dice that have the greatest face, and then those that are left.
func modelKept(d modelDice, kept int) map[int]int {
	ways := map[int]int{}
	if d.faces == 1 {
		ways[min(kept, d.dice)] = 1
		return ways
	}
	for greatest := 0; greatest <= d.dice; greatest++ {
		taken := min(greatest, kept)
		for sum, n := range modelKept(modelDice{d.dice - greatest, d.faces - 1}, kept-taken) {
			ways[sum+taken*d.faces] += n * modelChosen(d.dice, greatest)
		}
	}
	return ways
}

// modelMean returns the average of sums that so many throws have.
func modelMean(ways map[int]int) *big.Rat {
	total, throws := 0, 0
	for sum, n := range ways {
		total += sum * n
		throws += n
	}
	return big.NewRat(int64(total), int64(throws))
}

// modelPart returns the part of all throws that have at least a sum.
func modelPart(ways map[int]int, least int) *big.Rat {
	throws, all := 0, 0
	for sum, n := range ways {
		all += n
		if sum >= least {
			throws += n
		}
	}
	return big.NewRat(int64(throws), int64(all))
}

// modelAtMost returns how many throws have no face more often than so many
// times.
func modelAtMost(d modelDice, most int) int {
	if d.faces == 0 {
		if d.dice == 0 {
			return 1
		}
		return 0
	}
	throws := 0
	for greatest := 0; greatest <= min(most, d.dice); greatest++ {
		throws += modelChosen(d.dice, greatest) * modelAtMost(modelDice{d.dice - greatest, d.faces - 1}, most)
	}
	return throws
}

// modelRuns returns how many throws have a run, if so many of the faces behind
// their greatest one have come already.
func modelRuns(d modelDice, run int, come int) int {
	if come >= run {
		return d.throws()
	}
	if d.faces == 0 {
		return 0
	}
	throws := 0
	for greatest := 0; greatest <= d.dice; greatest++ {
		now := come + 1
		if greatest == 0 {
			now = 0
		}
		throws += modelChosen(d.dice, greatest) * modelRuns(modelDice{d.dice - greatest, d.faces - 1}, run, now)
	}
	return throws
}

// modelEach returns how many throws have each face: all throws, without those
// that miss a face, with those that miss two once more, and so on.
func modelEach(d modelDice) int {
	throws := 0
	for missed := 0; missed <= d.faces; missed++ {
		n := modelChosen(d.faces, missed) * modelDice{d.dice, d.faces - missed}.throws()
		if missed%2 == 1 {
			n = -n
		}
		throws += n
	}
	return throws
}

// modelForAll returns the average number of throws until each face has come: in
// the same way, the averages until one of so many faces comes.
func modelForAll(faces int) *big.Rat {
	mean := new(big.Rat)
	for some := 1; some <= faces; some++ {
		part := big.NewRat(int64(faces*modelChosen(faces, some)), int64(some))
		if some%2 == 0 {
			part.Neg(part)
		}
		mean.Add(mean, part)
	}
	return mean
}

// modelTotal adds up what counts of a list of throws of one die.
func modelTotal(faces int, list []int) int {
	total := 0
	for _, face := range list {
		total += face
		if face != faces {
			break
		}
	}
	return total
}

// modelAgain returns how many lists have each total, by their first throws.
func modelAgain(faces int, again int) map[int]int {
	ways := map[int]int{}
	for face := 1; face <= faces; face++ {
		if face < faces || again == 0 {
			ways[face] += modelDice{again, faces}.throws()
			continue
		}
		for total, n := range modelAgain(faces, again-1) {
			ways[face+total] += n
		}
	}
	return ways
}

// modelMeanAgain returns the average total: of one throw, and of each further
// one by the chance that it counts.
func modelMeanAgain(faces int, again int) *big.Rat {
	mean := new(big.Rat)
	for throw := range again + 1 {
		part := new(big.Rat).SetFrac(big.NewInt(1), modelPower(faces, throw))
		mean.Add(mean, part.Mul(part, big.NewRat(int64(faces+1), 2)))
	}
	return mean
}
