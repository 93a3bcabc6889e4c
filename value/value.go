// Package value has the values of rows: see ../../shared/DOC.md and doc/01-value.md.
//
// check.go tells what is not right, order.go has the order and the bags, number.go the hash and the sums.
package value
