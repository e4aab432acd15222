package desk

import (
	"strconv"

	"clepsydra/api"
	"clepsydra/audit"
	"clepsydra/cert"
	"clepsydra/der"
	"clepsydra/host"
	"clepsydra/iff"
	"clepsydra/nat"
	"clepsydra/net"
	"clepsydra/pkey"
)

// How many hosts a standard world has.
const (
	leastHosts = 1
	mostHosts  = 4
)

// The primes of the keys are powers of two, less one: all have the first one of these, those of even hosts the second one, the others the third one.
const (
	powerOfAll  = 127
	powerOfEven = 107
	powerOfOdd  = 89
)

// exponent is the E of all keys.
const exponent = 65537

// What all hosts prove, and by which parameters.
const (
	groupP = 2039
	groupQ = 1019
	groupG = 4
	secret = 77
)

// lastSecond is how long all certificates are valid.
const lastSecond = 1<<32 - 1

// clockBegin is what all clocks show at first.
const clockBegin = 1 << 40

// Standard is the standard world's configurations and clocks.
func Standard(n int, bound bool) ([]host.Config, []net.Clock, api.Errno) {
	if n < leastHosts || n > mostHosts {
		return nil, nil, api.ErrArg
	}
	var configs []host.Config
	var clocks []net.Clock
	var keys []api.Key
	for i := range n {
		keys = append(keys, keyOf(i))
		configs = append(configs, configOf(i, bound, keys))
		clocks = append(clocks, net.Clock{Begin: clockBegin, Rate: int64(i)})
	}
	return configs, clocks, api.OK
}

// configOf is the configuration of a host, whose key is the last one of the keys.
func configOf(i int, bound bool, keys []api.Key) host.Config {
	group := api.Params{P: nat.Of(groupP), Q: nat.Of(groupQ), G: nat.Of(groupG)}
	face, _ := iff.Face(group, nat.Of(secret))
	return host.Config{
		Addr: uint32(i + 1), Name: nameOf(i), Key: keys[i], Certs: certsOf(keys),
		P: group, Secret: nat.Of(secret), Face: face, Trusted: []string{nameOf(0)},
		Seed: uint32(i), Bound: bound, Stratum: i + 1,
	}
}

// nameOf is a host's name.
func nameOf(i int) string { return "h" + strconv.Itoa(i) }

// keyOf is a host's key.
func keyOf(i int) api.Key {
	other := powerOfOdd
	if i%2 == 0 {
		other = powerOfEven
	}
	k, _ := pkey.Make(lessOne(powerOfAll), lessOne(other), exponent)
	return k
}

// lessOne is two to the n, less one.
func lessOne(n int) api.Nat {
	p, _ := nat.Sub(nat.Shift(nat.Of(1), n), nat.Of(1))
	return p
}

// certsOf are the certificates of the hosts that have some keys: the first one's is its own, each other one's is made by the host ahead.
func certsOf(keys []api.Key) []api.Cert {
	var out []api.Cert
	for i, k := range keys {
		maker, usage := i-1, 0
		if i == 0 {
			maker, usage = 0, api.UseTrusted
		}
		c, _ := cert.Sign(keys[maker], api.Cert{
			Serial: uint32(i), Issuer: nameOf(maker), Subject: nameOf(i), To: lastSecond, N: k.N, E: k.E, Usage: usage,
		})
		out = append(out, c)
	}
	return out
}

// facesOf are the texts of hosts' keys.
func facesOf(configs []host.Config) []audit.Face {
	var out []audit.Face
	for _, c := range configs {
		text, _ := der.Write(api.Node{Tag: api.TagSeq, Kids: []api.Node{der.Nat(c.Key.N), der.Nat(c.Key.E)}})
		out = append(out, audit.Face{Addr: c.Addr, Text: text})
	}
	return out
}
