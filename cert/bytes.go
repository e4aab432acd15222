package cert

import (
	"clepsydra/api"
	"clepsydra/der"
)

// How many parts a certificate and its body are built of.
const (
	wholeParts = 2
	bodyParts  = 6
)

// Body is the bytes that are signed.
func Body(c api.Cert) ([]byte, api.Errno) {
	if e := Right(c); e != api.OK {
		return nil, e
	}
	return der.Write(bodyOf(c))
}

// Write is a certificate's bytes.
func Write(c api.Cert) ([]byte, api.Errno) {
	if e := Right(c); e != api.OK {
		return nil, e
	}
	return der.Write(seq(bodyOf(c), api.Node{Tag: api.TagOctets, Bytes: c.Sig}))
}

// Read reads a certificate.
func Read(b []byte) (api.Cert, api.Errno) {
	n, fault := der.Read(b)
	if fault.Code != api.OK {
		return api.Cert{}, fault.Code
	}
	return certOf(n)
}

// bodyOf is the value that a right certificate's body is written of.
func bodyOf(c api.Cert) api.Node {
	issuer, _ := der.Text(c.Issuer)
	subject, _ := der.Text(c.Subject)
	return seq(
		der.Int(int(c.Serial)), issuer, subject,
		seq(der.Int(int(c.From)), der.Int(int(c.To))),
		seq(der.Nat(c.N), der.Nat(c.E)),
		der.Int(c.Usage),
	)
}

// seq is the TagSeq of some values.
func seq(kids ...api.Node) api.Node { return api.Node{Tag: api.TagSeq, Kids: kids} }

// certOf is the right certificate that a value is built as.
func certOf(n api.Node) (api.Cert, api.Errno) {
	var c api.Cert
	var body []api.Node
	whole, e := partsOf(n, wholeParts)
	if e != api.OK || whole[1].Tag != api.TagOctets {
		goto refused
	}
	body, e = partsOf(whole[0], bodyParts)
	if e != api.OK {
		goto refused
	}
	c.Serial, e = wordOf(body[0])
	if e != api.OK {
		goto refused
	}
	c.Issuer, e = der.TextOf(body[1])
	if e != api.OK {
		goto refused
	}
	c.Subject, e = der.TextOf(body[2])
	if e != api.OK {
		goto refused
	}
	c.From, c.To, e = pairOf(body[3], wordOf)
	if e != api.OK {
		goto refused
	}
	c.N, c.E, e = pairOf(body[4], der.NatOf)
	if e != api.OK {
		goto refused
	}
	c.Usage, e = der.IntOf(body[5])
	if e != api.OK {
		goto refused
	}
	c.Sig = whole[1].Bytes
	if Right(c) == api.OK {
		return c, api.OK
	}
refused:
	return api.Cert{}, api.ErrCert
}

// partsOf is a TagSeq's kids, which are to be as many as are said.
func partsOf(n api.Node, count int) ([]api.Node, api.Errno) {
	if n.Tag != api.TagSeq || len(n.Kids) != count {
		return nil, api.ErrCert
	}
	return n.Kids, api.OK
}

// pairOf is what the two parts of a TagSeq are read as.
func pairOf[T any](n api.Node, read func(api.Node) (T, api.Errno)) (T, T, api.Errno) {
	var none T
	parts, e := partsOf(n, 2)
	if e != api.OK {
		return none, none, e
	}
	a, e := read(parts[0])
	if e != api.OK {
		return none, none, e
	}
	b, e := read(parts[1])
	return a, b, e
}

// wordOf is a value's number, which is to be one of 32 bits.
func wordOf(n api.Node) (uint32, api.Errno) {
	a, e := der.IntOf(n)
	if e != api.OK || a != int(uint32(a)) {
		return 0, api.ErrCert
	}
	return uint32(a), api.OK
}
