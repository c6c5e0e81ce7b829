package calc

import (
	"strings"
	"testing"

	"tidewright/api"
	"tidewright/row"
)

// checkValue checks the value of an expression for a row of the schema, and its truth; and the same of what Show makes of it (P4.2).
func checkValue(t *testing.T, text string, r api.Row, want api.Value) {
	t.Helper()
	shown, _ := Show(text)
	for _, text := range []string{text, shown} {
		got, e := Eval(schema(), text, r)
		if got != want || e != api.OK {
			t.Errorf("Eval(%q) of %v = %v, %d, not %v", text, r, got, e, want)
		}
		if kind, _ := Kind(schema(), text); kind != api.VText {
			is, e := Truth(schema(), text, r)
			if is != (want.N != 0) || e != api.OK {
				t.Errorf("Truth(%q) of %v = %v, %d", text, r, is, e)
			}
		}
	}
}

// Promise 4.2: what all operators and calls tell, also at the edges of their ranges.
func TestEval(t *testing.T) {
	r := api.Row{num(7), {}, word("xy"), {}}
	null := api.Value{}
	long := strings.Repeat("x", 200)
	for _, x := range []struct {
		text string
		want api.Value
	}{
		{"a", num(7)}, {"b", null}, {"s", word("xy")}, {"t", null}, {"null", null}, {"0", num(0)}, {"1000000000000000", num(maxInt)}, {`"\"\\\n\x00\xff"`, word("\"\\\n\x00\xff")}, {`""`, word("")},
		// The examples of the chapter.
		{"a / 2 + 1", num(4)}, {"a > 3 or b", num(1)}, {"a > 9 and b", num(0)}, {"b = b", null},
		// Null, if an operand is.
		{"-b", null}, {"not b", null}, {"a + b", null}, {"b + a", null}, {"b - b", null}, {"b * 0", null}, {"0 * b", null}, {"b / a", null}, {"0 / b", null}, {"b % 1", null}, {"a % b", null}, {"s & t", null}, {"t & s", null}, {"null & null", null}, {"a = b", null}, {"b != a", null}, {"b != b", null}, {"t < s", null}, {"s >= t", null}, {"null = null", null}, {"len(t)", null}, {"num(t)", null}, {"num(b)", null}, {"text(b)", null}, {"text(t)", null},
		// Numbers and their range.
		{"-a", num(-7)}, {"--a", num(7)}, {"-0", num(0)}, {"2 + 3 * 4 - 1", num(13)}, {"2 - 3 - 4", num(-5)}, {"100 / 7 / 2", num(7)}, {"7 % 4 * 2", num(6)},
		{"1000000000000000 + 0", num(maxInt)}, {"1000000000000000 + 1", null}, {"-1000000000000000 - 1", null}, {"-1000000000000000", num(-maxInt)}, {"1000000000000000 + 1000000000000000", null}, {"1000000000000000 + 1 - 1", null}, {"999999999999999 + 1", num(maxInt)}, {"-1000000000000000 + -0", num(-maxInt)}, {"0 - -1000000000000000", num(maxInt)},
		{"1000000000000000 * 1", num(maxInt)}, {"1000000000000000 * -1", num(-maxInt)}, {"-1000000000000000 * -1", num(maxInt)}, {"1000000000000000 * 2", null}, {"1000000000000000 * 1000000000000000", null}, {"-1000000000000000 * 1000000000000000", null}, {"1000000000000000 * 0", num(0)}, {"0 * -1000000000000000", num(0)}, {"31622776 * 31622776", num(999999961946176)}, {"31622777 * 31622777", null}, {"31622777 * -31622777", null}, {"500000000000000 * 2", num(maxInt)}, {"500000000000001 * 2", null}, {"-2 * 500000000000000", num(-maxInt)},
		{"4294967296 * 4294967296", null}, {"18446744073 * 1000000000", null}, {"9223372036854 * 1000001", null}, {"288230376151712 * 64", null}, // their product modulo 2^64 may be in the range
		// Quotients are rounded down; remainders have the sign of the divisor.
		{"7 / 2", num(3)}, {"-7 / 2", num(-4)}, {"7 / -2", num(-4)}, {"-7 / -2", num(3)}, {"6 / -2", num(-3)}, {"-6 / 2", num(-3)}, {"0 / -5", num(0)}, {"1 / -1000000000000000", num(-1)}, {"-1 / 1000000000000000", num(-1)}, {"1 / 1000000000000000", num(0)}, {"-1000000000000000 / -1", num(maxInt)},
		{"7 % 4", num(3)}, {"-7 % 4", num(1)}, {"7 % -4", num(-1)}, {"-7 % -4", num(-3)}, {"8 % -4", num(0)}, {"-8 % 4", num(0)}, {"1 % -1000000000000000", num(-999999999999999)}, {"-1 % 1000000000000000", num(999999999999999)}, {"0 % -3", num(0)}, {"5 % 1", num(0)}, {"5 % -1", num(0)},
		{"a / 0", null}, {"a % 0", null}, {"0 / 0", null}, {"0 % 0", null}, {"a / -0", null}, {"a / (1 - 1)", null}, {"1 / 0 = 1 / 0", null}, {"null(1 / 0)", num(1)},
		// Texts and their range.
		{`s & "!"`, word("xy!")}, {`"" & ""`, word("")}, {`"" & s & s`, word("xyxy")}, {`"` + long + `" & ""`, word(long)}, {`"` + long[1:] + `" & "y"`, word(long[1:] + "y")}, {`"` + long + `" & "y"`, null}, {`"y" & "` + long + `"`, null}, {`"` + long + `" & "` + long + `"`, null}, {`"` + long[:100] + `" & "` + long[100:] + `"`, word(long)}, {`"` + long + `" & "y" & ""`, null}, {`"\xff" & "\x00"`, word("\xff\x00")},
		{"len(s)", num(2)}, {`len("")`, num(0)}, {`len("\x00\xc3\xa9\n\"")`, num(5)}, {`len("` + long + `")`, num(200)}, {`len("` + long + `" & "x")`, null},
		// Comparisons.
		{"a = 7", num(1)}, {"a = 8", num(0)}, {"a != 7", num(0)}, {"a != 8", num(1)}, {"a < 7", num(0)}, {"a < 8", num(1)}, {"a <= 6", num(0)}, {"a <= 7", num(1)}, {"a > 6", num(1)}, {"a > 7", num(0)}, {"a >= 7", num(1)}, {"a >= 8", num(0)}, {"-5 < 3", num(1)}, {"9 < 10", num(1)}, {"-9 < -10", num(0)}, {"-1000000000000000 < 1000000000000000", num(1)}, {"0 = -0", num(1)},
		{`s = "xy"`, num(1)}, {`s = "x"`, num(0)}, {`s != "xy"`, num(0)}, {`s > "x"`, num(1)}, {`s < "xz"`, num(1)}, {`"9" < "10"`, num(0)}, {`"Z" < "a"`, num(1)}, {`"" < "\x00"`, num(1)}, {`"\x7f" < "\x80"`, num(1)}, {`"\xff" > "z"`, num(1)}, {`"a" <= "a"`, num(1)}, {`"b" <= "a"`, num(0)}, {`"a" >= "b"`, num(0)}, {`"" = ""`, num(1)}, {`"a" = "A"`, num(0)},
		{"not a = 0", num(1)}, {"not (a = 0)", num(1)}, {"not (a = 7)", num(0)}, {"(1 = 1) = 1", num(1)}, {"(1 < 2) + (2 < 3)", num(2)},
		// Calls.
		{"if(1, 2, 3)", num(2)}, {"if(-5, 2, 3)", num(2)}, {"if(0, 2, 3)", num(3)}, {"if(null, 2, 3)", num(3)}, {"if(b, 1, 2)", num(2)}, {"if(1 / 0, 2, 3)", num(3)}, {"if(a, null, 3)", null}, {"if(a, 2, null)", num(2)}, {"if(0, 2, b)", null}, {"if(a > 5, s, t)", word("xy")}, {"if(a > 9, s, t)", null}, {"if(1, 2, 1 / 0)", num(2)}, {"if(a, null, null)", null},
		{"null(a)", num(0)}, {"null(b)", num(1)}, {"null(s)", num(0)}, {"null(t)", num(1)}, {`null("")`, num(0)}, {"null(0)", num(0)}, {"null(null)", num(1)}, {"null(null(null))", num(0)}, {"null(b) and not null(a)", num(1)},
		{"least(a, b)", num(7)}, {"least(b, a)", num(7)}, {"least(b, b)", null}, {"least(null, null)", null}, {"least(1, 2)", num(1)}, {"least(2, 1)", num(1)}, {"least(-10, -9)", num(-10)}, {"least(3, 3)", num(3)}, {`least("10", "9")`, word("10")}, {"least(t, s)", word("xy")}, {`least(s, "")`, word("")}, {`least("b", "ab")`, word("ab")},
		{"greatest(a, b)", num(7)}, {"greatest(b, a)", num(7)}, {"greatest(b, b)", null}, {"greatest(1, 2)", num(2)}, {"greatest(2, 1)", num(2)}, {"greatest(-10, -9)", num(-9)}, {"greatest(-1, null)", num(-1)}, {`greatest(s, "z")`, word("z")}, {`greatest("10", "9")`, word("9")}, {"greatest(t, s)", word("xy")}, {`greatest(t, "")`, word("")}, {"greatest(null, null)", null},
		{"num(a)", num(7)}, {"num(-a)", num(-7)}, {"num(s)", null}, {`num("5")`, num(5)}, {`num("-5")`, num(-5)}, {`num("-012")`, num(-12)}, {`num("0")`, num(0)}, {`num("-0")`, num(0)}, {`num("000")`, num(0)}, {`num("-012") + num(text(a))`, num(-5)}, {`num("1000000000000000")`, num(maxInt)}, {`num("-1000000000000000")`, num(-maxInt)}, {`num("0001000000000000000")`, num(maxInt)}, {`num("` + strings.Repeat("0", 199) + `5")`, num(5)}, {`num("-` + strings.Repeat("0", 198) + `5")`, num(-5)},
		{"text(a)", word("7")}, {"text(-a)", word("-7")}, {"text(-0)", word("0")}, {"text(s)", word("xy")}, {`text("")`, word("")}, {"text(-1000000000000000)", word("-1000000000000000")}, {"text(a) & s", word("7xy")}, {"text(a = 7)", word("1")},
	} {
		checkValue(t, x.text, r, x.want)
	}
	for _, s := range []string{"", "-", "+5", "--5", "- 5", " 5", "5 ", "5-", "1 0", "1.0", "1e3", "0x10", "1_000", "a", "5a", "a5", "\\x00", "5\\x00", "5\\n", "\\xc2\\xbd", "\\xd9\\xa1", "1000000000000001", "-1000000000000001", "9223372036854775807", "9223372036854775808", "-9223372036854775808", "18446744073709551621", strings.Repeat("9", 200), "NaN", "null", "true", "\\\"5\\\"", "~"} {
		checkValue(t, `num("`+s+`")`, r, null)
	}
}

// Promise 4.2: and, or, not and if for all truths; P4.4 for the same.
func TestThreeTruths(t *testing.T) {
	null := api.Value{}
	values := []api.Value{null, num(0), num(1), num(-1), num(7), num(maxInt), num(-maxInt)}
	class := func(v api.Value) int { // 0 false, 1 null, 2 true: and is the least, or the greatest
		switch {
		case v == null:
			return 1
		case v.N == 0:
			return 0
		}
		return 2
	}
	of := func(class int) api.Value { return []api.Value{num(0), null, num(1)}[class] }
	for _, a := range values {
		for _, b := range values {
			r := api.Row{a, b, word("x"), word("y")}
			checkValue(t, "a and b", r, of(min(class(a), class(b))))
			checkValue(t, "b and a", r, of(min(class(a), class(b))))
			checkValue(t, "a or b", r, of(max(class(a), class(b))))
			checkValue(t, "b or a", r, of(max(class(a), class(b))))
			checkValue(t, "not (a and b)", r, of(2-min(class(a), class(b))))
			checkValue(t, "(not a) or (not b)", r, of(2-min(class(a), class(b))))
			checkValue(t, "not (a or b)", r, of(2-max(class(a), class(b))))
			checkValue(t, "not a and not b", r, of(2-max(class(a), class(b))))
		}
		r := api.Row{a, null, word("x"), word("y")}
		checkValue(t, "not a", r, of(2-class(a)))
		checkValue(t, "if(a, s, t)", r, word(map[bool]string{true: "x", false: "y"}[class(a) == 2]))
		if is, e := Truth(schema(), "a", r); is != (class(a) == 2) || e != api.OK {
			t.Errorf("Truth of %v = %v, %d", a, is, e)
		}
	}
	for _, text := range []string{"null", "null and 1", "b", "if(1, null, null)", "1 / 0"} {
		if is, e := Truth(schema(), text, make(api.Row, 4)); is || e != api.OK {
			t.Errorf("Truth(%q) = %v, %d", text, is, e)
		}
	}
}

// Promise 4.2: comparisons, least and greatest follow the order of values, for all pairs of them.
func TestOrder(t *testing.T) {
	numbers := []api.Value{num(-maxInt), num(-10), num(-9), num(-1), num(0), num(1), num(9), num(10), num(maxInt)}
	words := []api.Value{word(""), word("\x00"), word("\x00a"), word(" "), word("-1"), word("10"), word("9"), word("A"), word("a"), word("aa"), word("b"), word("\x7f"), word("\x80"), word("\xff"), word(strings.Repeat("\xff", 200))}
	truth := func(is bool) api.Value { return num(map[bool]int{true: 1}[is]) }
	for _, x := range []struct {
		values []api.Value
		a, b   string
	}{{numbers, "a", "b"}, {words, "s", "t"}} {
		for i, v := range x.values {
			for j, w := range x.values {
				r := api.Row{v, w, {}, {}}
				if x.a == "s" {
					r = api.Row{{}, {}, v, w}
				}
				checkValue(t, x.a+" = "+x.b, r, truth(i == j))
				checkValue(t, x.a+" != "+x.b, r, truth(i != j))
				checkValue(t, x.a+" < "+x.b, r, truth(i < j))
				checkValue(t, x.a+" <= "+x.b, r, truth(i <= j))
				checkValue(t, x.a+" > "+x.b, r, truth(i > j))
				checkValue(t, x.a+" >= "+x.b, r, truth(i >= j))
				checkValue(t, "least("+x.a+", "+x.b+")", r, x.values[min(i, j)])
				checkValue(t, "greatest("+x.a+", "+x.b+")", r, x.values[max(i, j)])
			}
		}
	}
}

// Promise 4.2: a quotient and a remainder make the dividend again, and the remainder is between 0 and the divisor.
func TestQuotients(t *testing.T) {
	numbers := []int{-maxInt, -maxInt + 1, -1000, -8, -7, -3, -2, -1, 0, 1, 2, 3, 7, 8, 1000, maxInt - 1, maxInt}
	for _, a := range numbers {
		for _, b := range numbers {
			r := api.Row{num(a), num(b), {}, {}}
			if b == 0 {
				checkValue(t, "a / b", r, api.Value{})
				checkValue(t, "a % b", r, api.Value{})
				continue
			}
			q, _ := Eval(schema(), "a / b", r)
			m, _ := Eval(schema(), "a % b", r)
			if q.N*b+m.N != a || m.N != 0 && (m.N < 0) != (b < 0) || max(m.N, -m.N) >= max(b, -b) {
				t.Errorf("%d / %d = %v, rest %v", a, b, q, m)
			}
		}
	}
}

// Promise 4.2: a literal is what a row's text says.
func TestLiterals(t *testing.T) {
	for c := range 256 {
		for _, s := range []string{string([]byte{byte(c)}), string([]byte{byte(c), 'x', byte(c)})} {
			text := row.Text(api.Row{word(s)})
			checkValue(t, text, make(api.Row, 4), word(s))
			checkValue(t, "if(1,"+text+","+text+")&"+text, make(api.Row, 4), word(s+s))
		}
	}
}
