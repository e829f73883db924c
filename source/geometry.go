package source

import (
	"flyover/api"
	"flyover/check"
)

// pair is two squares: of distances, or of differences.
type pair [2]int

// ascending reports whether the first square is not above the second one.
func (p pair) ascending() bool {
	return p == pair{min(p[0], p[1]), max(p[0], p[1])}
}

// minus returns the vector from q to p.
func minus(p, q api.Vector) api.Vector {
	return api.Vector{X: p.X - q.X, Y: p.Y - q.Y, Z: p.Z - q.Z}
}

// flat returns the X and Y of a vector.
func flat(p api.Vector) api.Point {
	return api.Point{X: p.X, Y: p.Y}
}

// levelSquare returns the square of a vector's length without its Z.
func levelSquare(p api.Vector) int {
	return p.X*p.X + p.Y*p.Y
}

// square returns the square of a vector's length.
func square(p api.Vector) int {
	return levelSquare(p) + p.Z*p.Z
}

// boxSquares returns the least and the greatest squared distance of a receiver from the places between a and b.
func boxSquares(a, b, receiver api.Vector) pair {
	from, to := minus(a, receiver), minus(b, receiver)
	x, y, z := reaches(from.X, to.X), reaches(from.Y, to.Y), reaches(from.Z, to.Z)
	return pair{x[0] + y[0] + z[0], x[1] + y[1] + z[1]}
}

// reaches returns the least and the greatest square of a number from a to b, or from b to a.
func reaches(a, b int) pair {
	low, high := min(a, b), max(a, b)
	near, far := max(low, -high, 0), max(-low, high)
	return pair{near * near, far * far}
}

// floor returns n / d, d above 0, rounded towards minus infinity.
func floor(n, d int) int {
	q := n / d
	if n%d < 0 {
		q--
	}
	return q
}

// between returns the number that lies part of whole from a towards b, rounded towards minus infinity.
func between(a, b, part, whole int) int {
	return a + floor((b-a)*part, whole)
}

func checkPower(n int) api.Errno {
	return check.Within(n, 1, MaxPower)
}

func checkFar(n int) api.Errno {
	return check.Within(n, -MaxFar, MaxFar)
}

func checkHeight(n int) api.Errno {
	return check.Within(n, 0, MaxHeight)
}

// checkPlace returns the first error of a place, or OK.
func checkPlace(p api.Vector) api.Errno {
	return check.First(checkFar(p.X), checkFar(p.Y), checkHeight(p.Z))
}

// checkDirection returns the first error of a heading or a direction, or OK.
func checkDirection(x api.Point) api.Errno {
	return check.First(check.Within(x.X, -2*MaxFar, 2*MaxFar), check.Within(x.Y, -2*MaxFar, 2*MaxFar))
}
