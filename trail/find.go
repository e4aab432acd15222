package trail

import (
	"slices"

	"clepsydra/api"
	"clepsydra/cert"
)

// step is the last certificate of a trail that grows, and the step ahead of it.
type step struct {
	cert  api.Cert
	ahead *step
}

// Holds tells whether certificates are a trail.
func Holds(l []api.Cert, subject string, now uint32, trusted []string) api.Errno {
	if len(l) < 1 || len(l) > api.MaxTrail || l[0].Subject != subject {
		return api.ErrTrail
	}
	for i, c := range l {
		if cert.Valid(c, now) != api.OK || i > 0 && !signs(c, l[i-1]) {
			return api.ErrTrail
		}
	}
	if !ends(l[len(l)-1], trusted) {
		return api.ErrTrail
	}
	return api.OK
}

// Find finds a trail.
func (s *Store) Find(subject string, now uint32, trusted []string) ([]api.Cert, api.Errno) {
	if s.unmade() {
		return nil, api.ErrNil
	}
	valid := slices.DeleteFunc(s.certs(), func(c api.Cert) bool { return cert.Valid(c, now) != api.OK })
	last := shortest(valid, subject, trusted)
	if last == nil {
		return nil, api.ErrTrail
	}
	return last.trail(), api.OK
}

// shortest is the last step of the shortest trail that certificates make, of several of the first one in their order; nil, if they make none. Each certificate is taken but once, by the first trail that comes to it: none that comes to it later is shorter, or ahead of that one.
func shortest(l []api.Cert, subject string, trusted []string) *step {
	level, left := grown(nil, l, func(c api.Cert) bool { return c.Subject == subject })
levels:
	for range api.MaxTrail {
		queue := level
		level = nil
		for {
			if len(queue) == 0 {
				continue levels
			}
			last := queue[0]
			queue = queue[1:]
			if ends(last.cert, trusted) {
				return last
			}
			var longer []*step
			longer, left = grown(last, left, func(c api.Cert) bool { return signs(c, last.cert) })
			level = append(level, longer...)
		}
	}
	return nil
}

// grown are the steps behind one to those certificates of some that fit there, and the other certificates.
func grown(ahead *step, l []api.Cert, fits func(c api.Cert) bool) ([]*step, []api.Cert) {
	var longer []*step
	var others []api.Cert
	for _, c := range l {
		if fits(c) {
			longer = append(longer, &step{c, ahead})
		} else {
			others = append(others, c)
		}
	}
	return longer, others
}

// trail is copies of the certificates up to a step.
func (s *step) trail() []api.Cert {
	var out []api.Cert
	for ; s != nil; s = s.ahead {
		out = append(out, copied(s.cert))
	}
	slices.Reverse(out)
	return out
}

// signs tells whether a certificate is that of another one's issuer, by whose key it is checked.
func signs(issuer, c api.Cert) bool {
	return issuer.Subject == c.Issuer && cert.Check(cert.Key(issuer), c) == api.OK
}

// ends tells whether a trail may end with a certificate: a trusted one that is its own.
func ends(c api.Cert, trusted []string) bool {
	return c.Usage&api.UseTrusted != 0 && slices.Contains(trusted, c.Subject) && signs(c, c)
}
