package hall

import (
	"dauber/api"
	"dauber/code"
)

// A serial number has four digits to the base 31, which are read in spite of up to two wrong places of the eight.
const (
	serialBase   = 31
	serialDigits = 4
	serialPlaces = 8
	serials      = serialBase * serialBase * serialBase * serialBase
)

func serialCode() code.Code {
	var points []int
	for i := range serialPlaces {
		points = append(points, i+1)
	}
	return code.Code{Order: serialBase, Points: points, K: serialDigits}
}

// serial tells the word of a number.
func serial(number int64) (string, error) {
	if number >= serials {
		return refuse(api.ErrArg)
	}
	var digits []int
	for range serialDigits {
		digits = append(digits, int(number%serialBase))
		number /= serialBase
	}
	word, _ := code.Encode(serialCode(), digits)
	return joined("serial", word...), nil
}

// serialOf tells the number whose word is near.
func serialOf(received []int) (string, error) {
	c := serialCode()
	word, e := code.Decode(c, received, nil)
	if e != api.OK {
		return refuse(e)
	}
	digits, _ := code.Message(c, word)
	number := 0
	for i := len(digits) - 1; i >= 0; i-- {
		number = number*serialBase + digits[i]
	}
	return joined("read", number), nil
}
