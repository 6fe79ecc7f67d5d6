package share

import "dauber/api"

// Proof is a proof of knowledge: the response is that of one who knows the secret of a key to the challenge, after the announcement.
type Proof struct {
	Announcement, Challenge, Response int64
}

// isProof reports whether the numbers of p are in their ranges.
func (g Group) isProof(p Proof) bool {
	return g.isElement(p.Announcement) && g.areNumbers(p.Challenge, p.Response)
}

// Prove returns the proof for the key G^secret with the announcement G^nonce; ErrGroup; or ErrArg if a number is not from 0 to P - 1.
func Prove(g Group, secret, nonce, challenge int64) (Proof, api.Errno) {
	if e := Check(g); e != api.OK {
		return Proof{}, e
	}
	if !g.areNumbers(secret, nonce, challenge) {
		return Proof{}, api.ErrArg
	}
	response := g.number(challenge).times(g.number(secret)).plus(g.number(nonce))
	return Proof{g.generated(nonce).value, challenge, response.value}, api.OK
}

// Holds reports whether p is a proof of knowledge for the key, and holds.
func Holds(g Group, key int64, p Proof) bool {
	if Check(g) != api.OK || !g.isElement(key) || !g.isProof(p) {
		return false
	}
	promised := g.raised(g.residue(key), p.Challenge).times(g.residue(p.Announcement))
	return g.generated(p.Response) == promised
}

// Extract returns the secret of the key for which both proofs hold, if there is such a key; ErrGroup; ErrProof if the announcements differ, or a number is out of its range; or ErrSame if the challenges are the same.
func Extract(g Group, p, q Proof) (int64, api.Errno) {
	if e := Check(g); e != api.OK {
		return 0, e
	}
	switch {
	case p.Announcement != q.Announcement || !g.isProof(p) || !g.isProof(q):
		return 0, api.ErrProof
	case p.Challenge == q.Challenge:
		return 0, api.ErrSame
	}
	responses := g.number(p.Response).minus(g.number(q.Response))
	challenges := g.number(p.Challenge).minus(g.number(q.Challenge))
	return responses.over(challenges).value, api.OK
}

// Imitate returns the proof with that challenge and response that holds for the key, whose secret need not be known; ErrGroup; or ErrArg if the key is no element, or a number is not from 0 to P - 1.
func Imitate(g Group, key, challenge, response int64) (Proof, api.Errno) {
	if e := Check(g); e != api.OK {
		return Proof{}, e
	}
	if !g.isElement(key) || !g.areNumbers(challenge, response) {
		return Proof{}, api.ErrArg
	}
	// The key to the power of P is 1: by P - challenge it is divided by its power by the challenge.
	rest := g.raised(g.residue(key), g.P-challenge)
	return Proof{g.generated(response).times(rest).value, challenge, response}, api.OK
}
