// Package tally is layer 1: integers and fractions of any size up to 2^api.MaxBits, binomials and factorials.
package tally
