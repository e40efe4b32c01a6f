package bind

// plus: the sum of two numbers in digits. Queries in queries may have more columns than any kind of number can count.
func plus(a, b string) string {
	if len(a) < len(b) {
		a, b = b, a
	}
	sum, carry := []byte(a), byte(0)
	for i := 1; i <= len(sum); i++ {
		digit := sum[len(sum)-i] - '0' + carry
		if i <= len(b) {
			digit += b[len(b)-i] - '0'
		}
		sum[len(sum)-i], carry = '0'+digit%10, digit/10
	}
	if carry > 0 {
		return "1" + string(sum)
	}
	return string(sum)
}

// above: is a number in digits above another one?
func above(a, b string) bool { return len(a) > len(b) || len(a) == len(b) && a > b }
