package correct

// symbol is an element of the field. The sum of two symbols is a ^ b, and so is their difference.
type symbol uint8

const symbols = 16

// powers are the powers of 2 from the 0th on, before they come again.
var powers = [symbols - 1]symbol{1, 2, 4, 8, 3, 6, 12, 11, 5, 10, 7, 14, 15, 13, 9}

// numbers tells which power each symbol is. The symbol 0 is none of them.
var numbers = [symbols]int{0, 0, 1, 4, 2, 8, 5, 10, 3, 14, 9, 7, 6, 13, 11, 12}

func power(i int) symbol { return powers[i%len(powers)] }

func product(a, b symbol) symbol {
	if a == 0 || b == 0 {
		return 0
	}
	return power(numbers[a] + numbers[b])
}

// quotient returns the symbol whose product by b is a. The symbol b is not 0.
func quotient(a, b symbol) symbol {
	if a == 0 {
		return 0
	}
	return power(numbers[a] - numbers[b] + len(powers))
}

// converted returns a list of numbers as symbols, or the other way round.
func converted[To, From ~int | ~uint8](list []From) []To {
	to := make([]To, len(list))
	for i, n := range list {
		to[i] = To(n)
	}
	return to
}
