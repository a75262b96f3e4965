"""Point 12: writing."""

import unittest
from itertools import permutations, product

from gossipcount.errors import NoNote
from gossipcount.notes import read, written
from gossipcount.pages import is_page
from tests.samples import MOST, page_of

# Each page with its names rising, beside the text that it is written as.
NOTES = (
    ({}, "nobody"),
    ({"anna": (5, 2), "ben": (0, 1)}, "anna +5 -2, ben +0 -1"),
    ({"a": (1, 0)}, "a +1 -0"),
    ({"a": (0, 1)}, "a +0 -1"),
    ({"nobody": (5, 2)}, "nobody +5 -2"),
    ({"anna": (1, 0), "nobody": (1, 1)}, "anna +1 -0, nobody +1 -1"),
    ({"abcdefgh": (10, 100)}, "abcdefgh +10 -100"),
    ({"a": (1, 1), "aa": (2, 2), "ab": (3, 3), "b": (4, 4)}, "a +1 -1, aa +2 -2, ab +3 -3, b +4 -4"),
    ({"a": (1000000000, 999999999)}, "a +1000000000 -999999999"),
    ({"a": (10 ** 59, 0)}, "a +1" + "0" * 59 + " -0"),
    ({"a": (MOST, MOST)}, "a +" + "9" * 60 + " -" + "9" * 60),
    ({"a": (0, MOST), "z": (MOST, 0)}, "a +0 -" + "9" * 60 + ", z +" + "9" * 60 + " -0"),
)

# Texts that no page is written as; what is wrong is the same in each row.
NO_NOTES = (
    "", " ", ",", ", ", "nobody ", " nobody", "Nobody", "nobody, ", "nobody, nobody", "nobody, a +1 -0", "a +1 -0, nobody",
    "a", "a ", "a +1", "a -1", "+1 -0", " +1 -0", "+1", "+1 -0 a", "a -0 +1", "a +1 +0", "a -1 -0", "a 1 0", "a 1 -0", "a +1 0",
    "a +0 -0", "a +1 -0, b +0 -0", "a +0 -0, b +1 -0",
    "a +1 -0 ", " a +1 -0", "a  +1 -0", "a +1  -0", "a +1 -0  ", "a + 1 -0", "a +1 - 0", "a+1 -0", "a +1-0", "a +1 -0 -0",
    "a +1 -0,b +1 -0", "a +1 -0 , b +1 -0", "a +1 -0,  b +1 -0", "a +1 -0; b +1 -0", "a +1 -0 b +1 -0", "a +1 -0,",
    "a +1 -0, ", ", a +1 -0", ",a +1 -0", "a +1 -0, , b +1 -0", "a, +1 -0", "a +1, -0", "a +1 -0. b +1 -0",
    "b +1 -0, a +1 -0", "b +1 -0, ab +1 -0", "ab +1 -0, a +1 -0", "a +1 -0, c +1 -0, b +1 -0",
    "a +1 -0, a +1 -0", "a +1 -0, a +2 -0", "a +1 -0, b +1 -0, a +1 -0", "a +1 -0, b +1 -0, b +1 -0",
    "a +01 -0", "a +1 -00", "a +00 -1", "a +1 -01", "a +007 -0", "a +0 -010",
    "a + -0", "a +1 -", "a + -", "a +", "a -", "a +x -0", "a +1 -x", "a +1x -0", "a +x1 -0", "a +1 -0x", "a +1.0 -0",
    "a +1e2 -0", "a +1_0 -0", "a +0x1 -0", "a ++1 -0", "a +-1 -0", "a +1 --0", "a +1 -+0", "a +-0 -1", "a +1, 000 -0",
    "A +1 -0", "Anna +1 -0", "a1 +1 -0", "a-b +1 -0", "abcdefghi +1 -0", "an na +1 -0", "anna! +1 -0", "~ +1 -0",
    "\ta +1 -0", "a\t+1 -0", "a +1\t-0", "a +1 -0\t", "a +1 -0\n", "\na +1 -0", "a\n+1 -0", "a +1 -0,\nb +1 -0", "nobody\n",
    "a +1 -0\r", "a +1\n -0", "a +\n1 -0", "a +1 -0\nb +1 -0", "{}", "[]", "{'a': (1, 0)}", "None", "0", "a: +1 -0",
    "a +1" + "0" * 60 + " -0", "a +0 -1" + "0" * 60, "a +" + "9" * 61 + " -0", "a +" + "9" * 5000 + " -0",
    "a +1 -" + "9" * 5000, "a +" + "0" * 5000 + " -1", "a" * 10000, "a +1 -0, " * 3000, ", " * 3000, "+" * 3000,
)


class Writing(unittest.TestCase):
    def test_pages_and_their_texts(self):
        for page, text in NOTES:
            with self.subTest(text=text):
                self.assertEqual(written(page), text)
                self.assertIs(type(written(page)), str)

    def test_names_rise_in_whatever_order_they_stand(self):
        page = {"a": (1, 1), "aa": (2, 2), "ab": (3, 3), "b": (4, 4)}
        for row in permutations(page.items()):
            self.assertEqual(written(dict(row)), "a +1 -1, aa +2 -2, ab +3 -3, b +4 -4")

    def test_the_page_stays_as_it_was(self):
        page = {"ben": (0, 1), "anna": (5, 2)}
        written(page)
        self.assertEqual(list(page.items()), [("ben", (0, 1)), ("anna", (5, 2))])

    def test_pages_of_many_names(self):
        text = written(page_of(200))
        self.assertEqual(len(text.split(", ")), 200)
        self.assertTrue(text.startswith("qaa +1 -0, qab +2 -1, "))
        self.assertTrue(text.endswith(", qhr +200 -199"))

    def test_what_goes_beyond_the_limits_raises_no_error(self):
        self.assertEqual(len(written(page_of(210)).split(", ")), 210)
        self.assertEqual(written({"a": (10 ** 60, 1)}), "a +1" + "0" * 60 + " -1")


class Reading(unittest.TestCase):
    def test_texts_and_their_pages(self):
        for page, text in NOTES:
            with self.subTest(text=text):
                told = read(text)
                self.assertEqual(list(told.items()), list(page.items()))
                self.assertIs(type(told), dict)
                self.assertIs(is_page(told), True)

    def test_shares_are_told_as_pairs_of_whole_numbers(self):
        for share in read("anna +5 -2, ben +0 -1").values():
            self.assertIs(type(share), tuple)
            self.assertEqual([type(number) for number in share], [int, int])

    def test_what_is_written_is_read_to_the_same_page(self):
        numbers = (0, 1, 9, 10, 99, 1000000000, 10 ** 59 - 1, 10 ** 59, MOST)
        for first, second in product(numbers, repeat=2):
            if first or second:
                page = {"ben": (first, second), "anna": (second, first)}
                self.assertEqual(read(written(page)), page)
        for many in (0, 1, 2, 3, 26, 27, 199, 200):
            self.assertEqual(read(written(page_of(many))), page_of(many))

    def test_the_page_of_a_text_is_written_as_this_text(self):
        for _, text in NOTES:
            with self.subTest(text=text):
                self.assertEqual(written(read(text)), text)

    def test_a_text_that_no_page_is_written_as_is_refused(self):
        for text in NO_NOTES:
            with self.subTest(text=text[:80]):
                with self.assertRaises(NoNote):
                    read(text)

    def test_one_sign_more_less_or_another_one_is_refused_or_makes_another_page(self):
        text = "anna +50 -2, ben +0 -1"
        page = read(text)
        signs = " +-,0159abnz.~A"
        others = [text[:at] + text[at + 1:] for at in range(len(text))]
        others += [text[:at] + sign + text[at:] for at in range(len(text) + 1) for sign in signs]
        others += [text[:at] + sign + text[at + 1:] for at in range(len(text)) for sign in signs]
        taken = 0
        for other in others:
            if other == text:
                continue
            with self.subTest(other=other):
                try:
                    told = read(other)
                except NoNote:
                    continue
                taken += 1
                self.assertIs(is_page(told), True)
                self.assertNotEqual(told, page)
                self.assertEqual(written(told), other)
        self.assertGreater(taken, 0)
        self.assertLess(taken, len(others) // 2)

    def test_numbers_below_and_at_the_limit(self):
        for first, second in (("9" * 60, "0"), ("0", "9" * 60), ("1" + "0" * 59, "1")):
            with self.subTest(first=first, second=second):
                text = f"a +{first} -{second}"
                self.assertEqual(read(text), {"a": (int(first), int(second))})
        for first, second in (("1" + "0" * 60, "0"), ("0", "1" + "0" * 60), ("1" + "0" * 59 + "1" * 2, "1")):
            with self.subTest(first=first, second=second):
                with self.assertRaises(NoNote):
                    read(f"a +{first} -{second}")

    def test_more_than_200_names_are_no_page(self):
        text = written(page_of(200))
        self.assertEqual(len(read(text)), 200)
        with self.assertRaises(NoNote):
            read(text + ", zoe +1 -0")
        with self.assertRaises(NoNote):
            read(written(page_of(201)))

    def test_each_call_tells_a_new_page(self):
        for _, text in NOTES:
            with self.subTest(text=text):
                told = read(text)
                before = dict(told)
                self.assertIsNot(told, read(text))
                told["odd"] = (9, 9)
                self.assertEqual(read(text), before)
                told.clear()
                self.assertEqual(read(text), before)


if __name__ == "__main__":
    unittest.main()
