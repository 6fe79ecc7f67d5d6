package draw

import (
	"iter"

	"dauber/api"
	"dauber/share"
)

// known yields the places at which a hall's polynomial is known, rising, and its values there.
func (j *judge) known(hall int) iter.Seq2[int64, int64] {
	return func(yield func(place, value int64) bool) {
		for place, s := range j.records[hall].shares {
			if s.right && !yield(int64(place), s.number) {
				return
			}
		}
	}
}

// secret returns the secret of a hall that is in, if it is known.
func (j *judge) secret(hall int) (int64, bool) {
	if secret := j.records[hall].secret; secret.right {
		return secret.number, true
	}
	var places, values []int64
	for place, value := range j.known(hall) {
		places = append(places, place)
		values = append(values, value)
	}
	if len(places) < j.coefficients() {
		return 0, false
	}
	secret, e := share.Recover(j.Group, places, values)
	return secret, e == api.OK
}

// sum returns the sum of the secrets of all halls that are in, if there are any and all are known.
func (j *judge) sum() (int64, bool) {
	total, some := int64(0), false
	for hall := 1; hall <= j.Halls; hall++ {
		if !j.isIn(hall) {
			continue
		}
		secret, known := j.secret(hall)
		if !known {
			return 0, false
		}
		total, some = (total+secret)%j.Group.P, true
	}
	return total, some
}
