"""Point 2: names and amounts."""

import unittest

from gossipcount.names import is_amount, is_name

# The signs just outside a to z stand among them.
OTHER_SIGNS = (
    "A", "M", "Z", "0", "5", "9", " ", "\n", "\r", "\t", "`", "{", "_", "-", "+", ".", ",", "!", "~", "@", "[",
    "\0", "\x7f", "\x0b", "\x0c", "\x85", "\u00df", "\u00e4", "\u00e9", "\u0131", "\u03b1", "\u0430", "\uff41",
    "\u2028", "\u00aa", "\u00b2", "\U0001d41a",
)
NO_TEXTS = (0, 1, 12345, -1, 1.5, None, True, False, [], ["a"], (), ("a",), {}, {"a": 1}, {"a"}, b"anna", object(), str)


class Names(unittest.TestCase):
    def test_texts_of_one_to_eight_small_letters_are_names(self):
        for text in ("a", "z", "m", "ab", "anna", "ben", "abcdefg", "abcdefgh", "zzzzzzzz", "aaaaaaaa"):
            with self.subTest(text=text):
                self.assertIs(is_name(text), True)

    def test_each_small_letter_may_stand_anywhere(self):
        for letter in "abcdefghijklmnopqrstuvwxyz":
            for text in (letter, letter + "bc", "b" + letter + "c", "bc" + letter):
                with self.subTest(text=text):
                    self.assertIs(is_name(text), True)

    def test_the_empty_text_is_no_name(self):
        self.assertIs(is_name(""), False)

    def test_texts_of_nine_letters_and_more_are_no_names(self):
        for text in ("abcdefghi", "a" * 9, "a" * 10, "z" * 1000):
            with self.subTest(text=text):
                self.assertIs(is_name(text), False)

    def test_one_sign_of_another_sort_makes_no_name(self):
        for sign in OTHER_SIGNS:
            for text in (sign, sign + "bc", "b" + sign + "c", "bc" + sign, "abcdefg" + sign, sign + "abcdefg"):
                with self.subTest(text=text):
                    self.assertIs(is_name(text), False)

    def test_eight_letters_and_a_line_end_are_no_name(self):
        self.assertIs(is_name("abcdefgh\n"), False)
        self.assertIs(is_name("\nabcdefgh"), False)

    def test_things_that_are_no_texts_are_no_names(self):
        for thing in NO_TEXTS:
            with self.subTest(thing=thing):
                self.assertIs(is_name(thing), False)


class Amounts(unittest.TestCase):
    def test_whole_numbers_from_one_to_the_greatest_are_amounts(self):
        for number in (1, 2, 10, 256, 999999999, 1000000000):
            with self.subTest(number=number):
                self.assertIs(is_amount(number), True)

    def test_numbers_below_one_are_no_amounts(self):
        for number in (0, -1, -2, -1000000000, -10 ** 60):
            with self.subTest(number=number):
                self.assertIs(is_amount(number), False)

    def test_numbers_above_the_greatest_are_no_amounts(self):
        for number in (1000000001, 1000000002, 2 ** 31, 2 ** 64, 10 ** 60, 10 ** 5000):
            with self.subTest(bits=number.bit_length()):
                self.assertIs(is_amount(number), False)

    def test_true_and_false_are_no_amounts(self):
        self.assertIs(is_amount(True), False)
        self.assertIs(is_amount(False), False)

    def test_things_that_are_no_numbers_are_no_amounts(self):
        for thing in ("", "1", "5", "a", None, [], [1], (), (1,), {}, {1: 1}, {1}, b"1", 1.0, 2.5, object(), int):
            with self.subTest(thing=thing):
                self.assertIs(is_amount(thing), False)


if __name__ == "__main__":
    unittest.main()
