"""Point 3: shares."""

import unittest
from itertools import product

from gossipcount.shares import greater, net, reaches

MOST = 10 ** 60 - 1
NUMBERS = (0, 1, 2, 3, MOST - 1, MOST)
SHARES = tuple(product(NUMBERS, repeat=2))


class Joined(unittest.TestCase):
    def test_the_greater_one_of_both_first_and_of_both_second_numbers(self):
        cases = (
            ((5, 2), (3, 4), (5, 4)),
            ((3, 4), (5, 2), (5, 4)),
            ((5, 4), (3, 2), (5, 4)),
            ((3, 2), (5, 4), (5, 4)),
            ((0, 0), (0, 0), (0, 0)),
            ((0, 0), (0, 1), (0, 1)),
            ((1, 0), (0, 1), (1, 1)),
            ((7, 7), (7, 8), (7, 8)),
            ((8, 7), (7, 7), (8, 7)),
            ((7, 7), (6, 7), (7, 7)),
            ((MOST, 0), (0, MOST), (MOST, MOST)),
            ((MOST - 1, MOST), (MOST, MOST - 1), (MOST, MOST)),
        )
        for one, other, both in cases:
            with self.subTest(one=one, other=other):
                self.assertEqual(greater(one, other), both)

    def test_a_share_is_told_as_a_pair_of_whole_numbers(self):
        told = greater((5, 2), (3, 4))
        self.assertIs(type(told), tuple)
        self.assertEqual([type(number) for number in told], [int, int])

    def test_from_either_side_and_again_comes_to_the_same(self):
        for one, other in product(SHARES, repeat=2):
            both = greater(one, other)
            self.assertEqual(greater(other, one), both)
            self.assertEqual(greater(both, one), both)
            self.assertEqual(greater(other, both), both)
            self.assertEqual(greater(one, one), one)

    def test_both_numbers_are_taken_by_themselves(self):
        for one, other in product(SHARES, repeat=2):
            first, second = greater(one, other)
            self.assertTrue(first >= one[0] and first >= other[0] and first in (one[0], other[0]))
            self.assertTrue(second >= one[1] and second >= other[1] and second in (one[1], other[1]))


class Reaching(unittest.TestCase):
    def test_neither_number_may_be_less(self):
        cases = (
            ((5, 2), (5, 2), True),
            ((5, 2), (4, 2), True),
            ((5, 2), (5, 1), True),
            ((5, 2), (6, 2), False),
            ((5, 2), (5, 3), False),
            ((5, 2), (4, 3), False),
            ((5, 2), (6, 1), False),
            ((5, 2), (6, 3), False),
            ((0, 0), (0, 0), True),
            ((0, 0), (1, 0), False),
            ((0, 0), (0, 1), False),
            ((1, 0), (0, 0), True),
            ((0, 1), (0, 0), True),
            ((MOST, MOST), (MOST, MOST), True),
            ((MOST, MOST - 1), (MOST, MOST), False),
            ((MOST - 1, MOST), (MOST, MOST), False),
        )
        for one, other, told in cases:
            with self.subTest(one=one, other=other):
                self.assertIs(reaches(one, other), told)

    def test_a_share_reaches_itself_and_the_share_without_deeds(self):
        for share in SHARES:
            self.assertIs(reaches(share, share), True)
            self.assertIs(reaches(share, (0, 0)), True)
            self.assertIs(reaches((0, 0), share), share == (0, 0))

    def test_some_shares_reach_each_other_in_no_direction(self):
        for one, other in (((5, 2), (2, 5)), ((1, 0), (0, 1)), ((MOST, 0), (0, MOST))):
            self.assertIs(reaches(one, other), False)
            self.assertIs(reaches(other, one), False)

    def test_two_that_reach_each_other_are_alike(self):
        for one, other in product(SHARES, repeat=2):
            self.assertIs(reaches(one, other) and reaches(other, one), one == other)

    def test_what_two_are_joined_to_reaches_both(self):
        for one, other in product(SHARES, repeat=2):
            both = greater(one, other)
            self.assertIs(reaches(both, one), True)
            self.assertIs(reaches(both, other), True)
            self.assertIs(reaches(one, other), both == one)


class Nets(unittest.TestCase):
    def test_the_first_number_less_the_second_one(self):
        cases = (
            ((0, 0), 0), ((5, 2), 3), ((2, 5), -3), ((7, 7), 0), ((1, 0), 1), ((0, 1), -1),
            ((MOST, 0), MOST), ((0, MOST), -MOST), ((MOST, MOST), 0), ((MOST, MOST - 1), 1),
        )
        for share, told in cases:
            with self.subTest(share=share):
                self.assertEqual(net(share), told)
                self.assertIs(type(net(share)), int)


if __name__ == "__main__":
    unittest.main()
