package search

// gcd returns the greatest common divisor of two numbers that are not both 0.
func gcd(a, b int) int {
	for b != 0 {
		a, b = b, a%b
	}
	return a
}

// lowest returns a fraction in lowest terms.
func lowest(num, den int) (int, int) {
	d := gcd(num, den)
	return num / d, den / d
}

func sum(list []int) int {
	n := 0
	for _, x := range list {
		n += x
	}
	return n
}
