package iff

import (
	"clepsydra/api"
	"clepsydra/modn"
	"clepsydra/nat"
	"clepsydra/prime"
)

// The digits of parameters that are made: of Q, how many more P has, of P.
const (
	leastQ = 8
	mostQ  = 256
	more   = 8
	mostP  = 512
)

// setDigits is how many of the highest digits of a candidate are set.
const setDigits = 1

// firstBase and lastBase are the numbers whose powers are looked at for G.
const (
	firstBase = 2
	lastBase  = 999
)

// Make makes parameters of drawn bytes.
func Make(draws []byte, qbits, pbits int) (api.Params, int, api.Errno) {
	if qbits < leastQ || qbits > mostQ || pbits < qbits+more || pbits > mostP {
		return api.Params{}, 0, api.ErrArg
	}
	q, usedQ := firstPrime(draws, qbits, func(c api.Nat) api.Nat { return c })
	if usedQ == 0 {
		return api.Params{}, 0, api.ErrDraws
	}
	p, usedP := firstPrime(draws[usedQ:], pbits-qbits, func(c api.Nat) api.Nat {
		return nat.Add(nat.Mul(lessOne(c), q), nat.Of(1))
	})
	if usedP == 0 {
		return api.Params{}, 0, api.ErrDraws
	}
	g, e := leastPower(p, q)
	if e != api.OK {
		return api.Params{}, 0, e
	}
	return api.Params{P: p, Q: q, G: g}, usedQ + usedP, api.OK
}

// firstPrime is the first number that passes of those that are made of candidates, and how many bytes were used; 0 bytes, if there is none.
func firstPrime(draws []byte, digits int, of func(c api.Nat) api.Nat) (api.Nat, int) {
	for used, c := range prime.Candidates(draws, digits, setDigits) {
		if n := of(c); prime.Passes(n) {
			return n, used
		}
	}
	return nil, 0
}

// leastPower is G for P and Q: the power of the least base whose power may be G.
func leastPower(p, q api.Nat) (api.Nat, api.Errno) {
	often, _, _ := nat.Div(lessOne(p), q)
	base := uint64(firstBase)
again:
	g, _ := modn.Pow(nat.Of(base), often, p)
	if generates(api.Params{P: p, Q: q, G: g}) {
		return g, api.OK
	}
	if base < lastBase {
		base++
		goto again
	}
	return nil, api.ErrParams
}
