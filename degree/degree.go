// Package degree is layer 1, temperatures as whole numbers: see shared/doc/01-degree.md.
package degree

import (
	"math"
	"strconv"

	"hoarfrost/api"
)

// longest is how many bytes a tenth's text has at most.
const longest = len("-109951162777.6")

// Tenths are a float64's; ErrForm of a NaN.
func Tenths(x float64) (int, api.Errno) {
	if math.IsNaN(x) {
		return 0, api.ErrForm
	}
	tenfold := x * 10
	// The bounds come ahead of the conversion, as beyond them it may have no int.
	if tenfold >= api.Top {
		return api.Top, api.OK
	}
	if tenfold <= -api.Top {
		return -api.Top, api.OK
	}
	return int(math.Ceil(tenfold)), api.OK
}

// Of are the tenths of the float64 with these bits; ErrForm of a NaN's.
func Of(bits uint64) (int, api.Errno) {
	return Tenths(math.Float64frombits(bits))
}

// Float is the float64 that is nearest to a tenth of t; 0 of what is no tenth.
func Float(t int) float64 {
	if !isTenth(t) {
		return 0
	}
	// A tenth is a float64 without rounding, so that the division alone rounds, and once.
	return float64(t) / 10
}

// Text is a tenth's; "" of what is none.
func Text(t int) string {
	if !isTenth(t) {
		return ""
	}
	// The sign is written apart, as -5 has no degrees that could carry it.
	if t < 0 {
		return "-" + figures(-t)
	}
	return figures(t)
}

// Parse is the tenth whose text it is; ErrForm, if it is none's.
func Parse(s string) (int, api.Errno) {
	point := len(s) - 2
	if point < 1 || len(s) > longest {
		return 0, api.ErrForm
	}
	t, err := strconv.Atoi(s[:point] + s[point+1:])
	// Many texts make the same number, but just one is the tenth's own.
	if err != nil || Text(t) != s {
		return 0, api.ErrForm
	}
	return t, api.OK
}

// isTenth tells whether a number is a tenth.
func isTenth(t int) bool {
	return -api.Top <= t && t <= api.Top
}

// figures is the text of a tenth that is not below 0.
func figures(t int) string {
	return strconv.Itoa(t/10) + "." + strconv.Itoa(t%10)
}
