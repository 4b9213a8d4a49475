package call

import (
	"newswire/api"
	"newswire/rational"
)

// inexact is the value of the panic with which a chain of computations stops where one cannot be exact.
type inexact struct{}

// computed returns what compute returns, or false if a computation in it stops.
func computed[T any](compute func() T) (x T, ok bool) {
	defer func() {
		if recover() != nil {
			var none T
			x, ok = none, false
		}
	}()
	return compute(), true
}

// exact returns x, or stops if there was an error.
func exact(x api.Ratio, e api.Errno) api.Ratio {
	if e != api.OK {
		panic(inexact{})
	}
	return x
}

func add(a api.Ratio, b api.Ratio) api.Ratio { return exact(rational.Add(a, b)) }
func sub(a api.Ratio, b api.Ratio) api.Ratio { return exact(rational.Sub(a, b)) }
func mul(a api.Ratio, b api.Ratio) api.Ratio { return exact(rational.Mul(a, b)) }
func div(a api.Ratio, b api.Ratio) api.Ratio { return exact(rational.Div(a, b)) }

// fraction returns n / d, where d is not 0.
func fraction(n int, d int) api.Ratio { return exact(rational.Of(n, d)) }

func whole(n int) api.Ratio { return fraction(n, 1) }

func less(a api.Ratio, b api.Ratio) bool { return rational.Compare(a, b) < 0 }
