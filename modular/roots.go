package modular

import "obscura/api"

// Order returns the order of a modulo the prime n.
func Order(a, n uint32) (uint32, api.Errno) {
	if !primeModulus(n) || a < 1 || a >= n {
		return 0, api.ErrArg
	}
	factors, _ := Factors(n - 1)
	times := products(n)
	// The order divides n - 1: each prime is taken out of it as long as the power remains 1.
	order := n - 1
	for _, f := range factors {
		for order%f.Prime == 0 && power(a, uint64(order/f.Prime), times) == 1 {
			order /= f.Prime
		}
	}
	return order, api.OK
}

// Root returns the least a whose order modulo the prime n is the given one.
func Root(order, n uint32) (uint32, api.Errno) {
	switch {
	case !primeModulus(n) || order < 1:
		return 0, api.ErrArg
	case order > api.MaxOrder:
		return 0, api.ErrLong
	case (n-1)%order != 0:
		return 0, api.ErrNone
	}
	return leastRoot(someRoot(order, n), order, n), api.OK
}

// primeModulus reports whether n is a prime that is a modulus.
func primeModulus(n uint32) bool { return modulus(n) && Prime(n) }

// someRoot returns an element of an order that divides n - 1.
func someRoot(order, n uint32) uint32 {
	factors, _ := Factors(order)
	times := products(n)
	// A generator of the group is among the candidates, and its power has this order.
	for a := uint32(1); a < n; a++ {
		w := power(a, uint64((n-1)/order), times)
		if primitive(w, order, factors, times) {
			return w
		}
	}
	return 0
}

// primitive reports whether w, whose power with the exponent order is 1, has no lesser order; factors are those of order.
func primitive(w, order uint32, factors []api.Power, times func(a, b uint32) uint32) bool {
	for _, f := range factors {
		if power(w, uint64(order/f.Prime), times) == 1 {
			return false
		}
	}
	return true
}

// leastRoot returns the least element that has the same order as w: they are the powers of w whose exponents have no common divisor with the order.
func leastRoot(w, order, n uint32) uint32 {
	times := products(n)
	least, p := n, uint32(1)
	for k := range order {
		if divisor, _ := bezout(int64(k), int64(order)); divisor == 1 && p < least {
			least = p
		}
		p = times(p, w)
	}
	return least
}
