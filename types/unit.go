package types

import (
	"strconv"
	"strings"

	"intervalmon/api"
)

// The places of the exponents in a unit.
const (
	items = iota
	bytes
	ticks
)

// names are the names whose exponents a unit contains.
var names = [...]string{items: "item", bytes: "byte", ticks: "tick"}

// maxExponent is the greatest absolute value of the exponents of a valid unit.
const maxExponent = 3

// one is the numerator of a text without names that have a positive exponent.
const one = "1"

// Mul returns the unit of products.
func Mul(a, b api.Unit) api.Unit {
	for i, n := range b {
		a[i] += n
	}
	return a
}

// Div returns the unit of quotients.
func Div(a, b api.Unit) api.Unit {
	for i, n := range b {
		a[i] -= n
	}
	return a
}

// Text returns the text of a valid unit, or the empty string for any other unit.
func Text(u api.Unit) string {
	if !isValid(u) {
		return ""
	}
	var factors []string
	divisors := ""
	for i, n := range u {
		switch {
		case n > 0:
			factors = append(factors, power(names[i], n))
		case n < 0:
			divisors += "/" + power(names[i], -n)
		}
	}
	if len(factors) == 0 {
		return one + divisors
	}
	return strings.Join(factors, "*") + divisors
}

// Parse returns the valid unit whose text is s.
func Parse(s string) (api.Unit, api.Errno) {
	var u api.Unit
	factors, divisors, _ := strings.Cut(s, "/")
	for text := range strings.SplitSeq(factors, "*") {
		u = Mul(u, parsePower(text))
	}
	for text := range strings.SplitSeq(divisors, "/") {
		u = Div(u, parsePower(text))
	}
	// Cutting finds the unit of every text, but also some unit for each string that is no text.
	if Text(u) != s {
		return api.Unit{}, api.ErrForm
	}
	return u, api.OK
}

// isValid reports whether the exponents of a unit are in their range.
func isValid(u api.Unit) bool {
	for _, n := range u {
		if n < -maxExponent || n > maxExponent {
			return false
		}
	}
	return true
}

// power returns the text of a name with a positive exponent.
func power(name string, n int) string {
	if n == 1 {
		return name
	}
	return name + "^" + strconv.Itoa(n)
}

// parsePower returns the unit of a name with a positive exponent, or any unit if s is something else.
func parsePower(s string) api.Unit {
	name, digits, found := strings.Cut(s, "^")
	exponent := 1
	if found {
		exponent, _ = strconv.Atoi(digits)
	}
	var u api.Unit
	for i, known := range names {
		if name == known {
			u[i] = exponent
		}
	}
	return u
}
