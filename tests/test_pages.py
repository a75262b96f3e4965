"""Points 4, 5 and 6: pages."""

import copy
import unittest
from collections import OrderedDict
from itertools import permutations, product

from gossipcount.pages import is_page, joined, knows, lacking, share_of, total
from gossipcount.shares import greater, reaches
from tests.samples import MOST, page_of

# Without names; alike; with all, some and no names shared; names that differ by one sign; names not rising.
PAGES = (
    {},
    {"a": (1, 0)},
    {"a": (0, 1)},
    {"a": (2, 1)},
    {"ab": (1, 0)},
    {"anna": (5, 2), "ben": (0, 1)},
    {"ben": (0, 1), "anna": (5, 2)},
    {"ben": (3, 0), "anna": (4, 4)},
    {"dora": (1, 1), "ben": (0, 1), "carl": (7, 0)},
    {"annb": (5, 2), "ann": (1, 9), "anna": (6, 1)},
    {"z": (MOST, MOST), "anna": (MOST, 0), "a": (0, MOST)},
)


def plainly_joined(one, other):
    """The page that two pages are joined to, worked out name by name in the words of point 5."""
    page = {}
    for name in list(one) + list(other):
        first, second = one.get(name, (0, 0)), other.get(name, (0, 0))
        page[name] = (max(first[0], second[0]), max(first[1], second[1]))
    return page


class WhatIsAPage(unittest.TestCase):
    def test_dicts_from_names_to_shares_are_pages(self):
        for page in PAGES:
            with self.subTest(page=page):
                self.assertIs(is_page(page), True)

    def test_pages_have_at_most_200_names(self):
        for many, told in ((0, True), (1, True), (2, True), (199, True), (200, True), (201, False), (300, False)):
            with self.subTest(many=many):
                self.assertIs(is_page(page_of(many)), told)

    def test_the_edges_of_a_share(self):
        for share in ((1, 0), (0, 1), (1, 1), (MOST, 0), (0, MOST), (MOST, MOST)):
            with self.subTest(share=share):
                self.assertIs(is_page({"anna": share}), True)

    def test_a_share_of_two_noughts_stands_in_no_page(self):
        self.assertIs(is_page({"anna": (0, 0)}), False)
        self.assertIs(is_page({"anna": (1, 0), "ben": (0, 0)}), False)

    def test_keys_that_are_no_names(self):
        for key in ("", "Anna", "anna1", "an na", "anna\n", "abcdefghi", 1, None, True, (), ("anna",), b"anna", 2.5):
            with self.subTest(key=key):
                self.assertIs(is_page({key: (1, 0)}), False)
                self.assertIs(is_page({"ben": (1, 0), key: (1, 0)}), False)
                self.assertIs(is_page({key: (1, 0), "ben": (1, 0)}), False)

    def test_odd_shares(self):
        odd = [
            [1, 2], [], (), (1,), (1, 2, 3), ((1, 2),), 5, 0, -1, None, True, False, "", "12", "1 2", {}, {1: 2}, {1, 2},
            b"12", 1.5, object(), range(2),
        ]
        for number in (-1, -10 ** 60, 10 ** 60, 10 ** 60 + 1, True, False, "1", "", None, 1.0, [1], (1,), {}):
            odd += [(number, 1), (1, number)]
        for share in odd:
            with self.subTest(share=share):
                self.assertIs(is_page({"anna": share}), False)
                self.assertIs(is_page({"anna": (1, 0), "ben": share}), False)
                self.assertIs(is_page({"anna": share, "ben": (1, 0)}), False)

    def test_true_and_false_are_no_numbers_of_a_share(self):
        for share in ((True, 0), (0, True), (True, True), (False, 1), (1, False), (False, False)):
            with self.subTest(share=share):
                self.assertIs(is_page({"anna": share}), False)

    def test_things_that_are_no_dicts(self):
        things = (
            [], ["anna"], "", "anna", "anna +5 -2", None, 0, 1, True, False, (), ("anna", (1, 0)), [("anna", (1, 0))],
            (("anna", (1, 0)),), {"anna"}, set(), b"", 1.5, object(), dict,
        )
        for thing in things:
            with self.subTest(thing=thing):
                self.assertIs(is_page(thing), False)

    def test_what_is_asked_of_stays_as_it_was(self):
        for thing in ({"ben": (1, 0), "anna": (2, 0)}, {"ben": [1, 2]}, {"Anna": (0, 0)}):
            before = copy.deepcopy(thing)
            is_page(thing)
            self.assertEqual(list(thing.items()), list(before.items()))


class TheShareOfAName(unittest.TestCase):
    def test_the_share_of_a_name_that_is_there(self):
        page = {"anna": (5, 2), "ben": (0, 1), "a": (MOST, MOST)}
        self.assertEqual(share_of(page, "anna"), (5, 2))
        self.assertEqual(share_of(page, "ben"), (0, 1))
        self.assertEqual(share_of(page, "a"), (MOST, MOST))

    def test_the_share_of_a_name_that_is_not_there(self):
        page = {"anna": (5, 2)}
        for name in ("ben", "ann", "annb", "annaa", "a", "Anna", "", "abcdefghi", "anna "):
            with self.subTest(name=name):
                self.assertEqual(share_of(page, name), (0, 0))
                self.assertIs(type(share_of(page, name)), tuple)
        self.assertEqual(share_of({}, "anna"), (0, 0))

    def test_asking_adds_nothing_to_the_page(self):
        page = {"anna": (5, 2)}
        share_of(page, "ben")
        self.assertEqual(page, {"anna": (5, 2)})


class Joined(unittest.TestCase):
    def test_each_name_of_one_or_both_with_both_shares_joined(self):
        cases = (
            ({}, {}, {}),
            ({"a": (1, 2)}, {}, {"a": (1, 2)}),
            ({}, {"a": (1, 2)}, {"a": (1, 2)}),
            ({"a": (5, 2)}, {"a": (3, 4)}, {"a": (5, 4)}),
            ({"a": (5, 2)}, {"b": (3, 4)}, {"a": (5, 2), "b": (3, 4)}),
            ({"ann": (5, 2)}, {"anna": (3, 4)}, {"ann": (5, 2), "anna": (3, 4)}),
            ({"a": (5, 2), "b": (1, 0)}, {"b": (0, 3), "c": (1, 1)}, {"a": (5, 2), "b": (1, 3), "c": (1, 1)}),
            ({"b": (0, 3), "c": (1, 1)}, {"a": (5, 2), "b": (1, 0)}, {"a": (5, 2), "b": (1, 3), "c": (1, 1)}),
            ({"a": (MOST, 0)}, {"a": (0, MOST)}, {"a": (MOST, MOST)}),
        )
        for one, other, both in cases:
            with self.subTest(one=one, other=other):
                self.assertEqual(joined(one, other), both)

    def test_all_pages_with_all_pages(self):
        for one, other in product(PAGES, repeat=2):
            with self.subTest(one=one, other=other):
                both = joined(one, other)
                self.assertEqual(both, plainly_joined(one, other))
                self.assertIs(is_page(both), True)
                self.assertIs(type(both), dict)

    def test_names_are_told_rising(self):
        for one, other in product(PAGES, repeat=2):
            with self.subTest(one=one, other=other):
                names = list(joined(one, other))
                self.assertEqual(names, sorted(names))
        self.assertEqual(list(joined({"b": (1, 0), "z": (1, 0)}, {"c": (1, 0), "a": (1, 0)})), ["a", "b", "c", "z"])
        self.assertEqual(list(joined({"z": (1, 0), "a": (1, 0)}, {})), ["a", "z"])
        self.assertEqual(list(joined({}, {"z": (1, 0), "a": (1, 0)})), ["a", "z"])
        self.assertEqual(list(joined({"b": (1, 0), "ab": (1, 0)}, {"aa": (1, 0), "a": (1, 0)})), ["a", "aa", "ab", "b"])

    def test_the_order_of_the_names_handed_in_does_not_matter(self):
        one = {"anna": (5, 2), "ben": (0, 1), "carl": (3, 3)}
        other = {"ben": (2, 0), "dora": (1, 0), "anna": (4, 4)}
        told = list(joined(one, other).items())
        for first, second in product(permutations(one.items()), permutations(other.items())):
            self.assertEqual(list(joined(dict(first), dict(second)).items()), told)

    def test_pages_of_many_names(self):
        one, other = page_of(200), {name: (0, 500) for name in reversed(list(page_of(200)))}
        both = joined(one, other)
        self.assertEqual(both, {name: (one[name][0], 500) for name in one})
        self.assertEqual(list(both), sorted(one))

    def test_more_than_200_names_raise_no_error(self):
        both = joined(page_of(150), {"zz" + name: (1, 0) for name in page_of(150)})
        self.assertIsInstance(both, dict)


class Knowing(unittest.TestCase):
    def test_every_share_reaches_the_other_s(self):
        cases = (
            ({}, {}, True),
            ({"a": (1, 0)}, {}, True),
            ({}, {"a": (1, 0)}, False),
            ({}, {"a": (0, 1)}, False),
            ({"a": (5, 2)}, {"a": (5, 2)}, True),
            ({"a": (5, 2)}, {"a": (4, 2)}, True),
            ({"a": (5, 2)}, {"a": (6, 2)}, False),
            ({"a": (5, 2)}, {"a": (5, 3)}, False),
            ({"a": (5, 2)}, {"a": (2, 5)}, False),
            ({"a": (5, 2)}, {"b": (1, 0)}, False),
            ({"ann": (5, 2)}, {"anna": (5, 2)}, False),
            ({"a": (5, 2), "b": (1, 0)}, {"b": (1, 0)}, True),
            ({"a": (5, 2), "b": (1, 0)}, {"b": (1, 0), "a": (5, 2)}, True),
            ({"a": (5, 2), "b": (1, 0)}, {"a": (5, 2), "b": (1, 1)}, False),
            ({"a": (5, 2), "b": (1, 0)}, {"a": (5, 3), "b": (1, 0)}, False),
            ({"a": (MOST, MOST)}, {"a": (MOST, MOST)}, True),
            ({"a": (MOST, MOST - 1)}, {"a": (MOST, MOST)}, False),
        )
        for one, other, told in cases:
            with self.subTest(one=one, other=other):
                self.assertIs(knows(one, other), told)

    def test_a_page_knows_itself_and_the_page_without_names_and_what_it_was_joined_with(self):
        for one, other in product(PAGES, repeat=2):
            with self.subTest(one=one, other=other):
                self.assertIs(knows(one, one), True)
                self.assertIs(knows(one, {}), True)
                self.assertIs(knows({}, one), one == {})
                self.assertIs(knows(joined(one, other), one), True)
                self.assertIs(knows(joined(one, other), other), True)

    def test_a_page_knows_just_what_adds_nothing_to_it(self):
        for one, other in product(PAGES, repeat=2):
            with self.subTest(one=one, other=other):
                self.assertIs(knows(one, other), plainly_joined(one, other) == one)


class Lacking(unittest.TestCase):
    def test_just_the_names_not_reached_with_the_shares_of_the_other(self):
        cases = (
            ({}, {}, {}),
            ({"a": (1, 0)}, {}, {}),
            ({}, {"a": (1, 0)}, {"a": (1, 0)}),
            ({"a": (5, 2)}, {"a": (5, 2)}, {}),
            ({"a": (5, 2)}, {"a": (5, 1)}, {}),
            ({"a": (5, 2)}, {"a": (6, 2)}, {"a": (6, 2)}),
            ({"a": (5, 2)}, {"a": (5, 3)}, {"a": (5, 3)}),
            ({"a": (5, 2)}, {"a": (2, 5)}, {"a": (2, 5)}),
            ({"a": (5, 2)}, {"b": (1, 0)}, {"b": (1, 0)}),
            ({"ann": (5, 2)}, {"anna": (5, 2)}, {"anna": (5, 2)}),
            ({"a": (5, 2), "b": (1, 0)}, {"a": (4, 2), "b": (0, 7), "c": (1, 1)}, {"b": (0, 7), "c": (1, 1)}),
            ({"a": (MOST, MOST - 1)}, {"a": (1, MOST)}, {"a": (1, MOST)}),
        )
        for one, other, told in cases:
            with self.subTest(one=one, other=other):
                self.assertEqual(lacking(one, other), told)

    def test_all_pages_of_all_pages(self):
        for one, other in product(PAGES, repeat=2):
            with self.subTest(one=one, other=other):
                told = lacking(one, other)
                for name, share in other.items():
                    self.assertEqual(name in told, not reaches(one.get(name, (0, 0)), share))
                for name, share in told.items():
                    self.assertEqual(share, other[name])
                self.assertIs(is_page(told), True)
                self.assertIs(type(told), dict)
                self.assertIs(knows(one, other), told == {})

    def test_names_are_told_rising(self):
        for one, other in product(PAGES, repeat=2):
            with self.subTest(one=one, other=other):
                names = list(lacking(one, other))
                self.assertEqual(names, sorted(names))
        self.assertEqual(list(lacking({}, {"b": (1, 0), "ab": (1, 0), "a": (1, 0)})), ["a", "ab", "b"])
        self.assertEqual(list(lacking({"c": (9, 9)}, {"d": (1, 0), "c": (1, 0), "b": (1, 0)})), ["b", "d"])

    def test_the_order_of_the_names_handed_in_does_not_matter(self):
        one = {"anna": (5, 2), "ben": (0, 1), "carl": (3, 3)}
        other = {"ben": (2, 0), "dora": (1, 0), "anna": (4, 4)}
        told = list(lacking(one, other).items())
        for first, second in product(permutations(one.items()), permutations(other.items())):
            self.assertEqual(list(lacking(dict(first), dict(second)).items()), told)
            self.assertIs(knows(dict(first), dict(second)), False)


class Totals(unittest.TestCase):
    def test_the_sum_of_the_nets(self):
        cases = (
            ({}, 0),
            ({"anna": (5, 2)}, 3),
            ({"anna": (2, 5)}, -3),
            ({"anna": (7, 7)}, 0),
            ({"anna": (5, 2), "ben": (0, 1)}, 2),
            ({"anna": (5, 2), "ben": (0, 3)}, 0),
            ({"anna": (1, 0), "ben": (0, 9), "carl": (2, 2)}, -8),
            ({"anna": (MOST, 0), "ben": (MOST, 1)}, 2 * MOST - 1),
            ({"anna": (0, MOST), "ben": (0, MOST)}, -2 * MOST),
            (page_of(200), 200),
        )
        for page, told in cases:
            with self.subTest(page=page):
                self.assertEqual(total(page), told)
                self.assertIs(type(total(page)), int)


class WhatFollows(unittest.TestCase):
    def test_joined_with_what_it_lacks_is_joined_with_the_other(self):
        for one, other in product(PAGES, repeat=2):
            with self.subTest(one=one, other=other):
                self.assertEqual(joined(one, lacking(one, other)), joined(one, other))
                self.assertEqual(joined(lacking(one, other), one), joined(one, other))

    def test_it_lacks_nothing_of_what_it_knows(self):
        for one, other in product(PAGES, repeat=2):
            with self.subTest(one=one, other=other):
                self.assertEqual(lacking(one, one), {})
                self.assertEqual(lacking(joined(one, other), one), {})
                self.assertEqual(lacking(joined(one, other), other), {})
                if knows(one, other):
                    self.assertEqual(lacking(one, other), {})

    def test_in_any_order_and_again(self):
        for one, other in product(PAGES, repeat=2):
            with self.subTest(one=one, other=other):
                both = list(joined(one, other).items())
                self.assertEqual(list(joined(other, one).items()), both)
                self.assertEqual(list(joined(joined(one, other), one).items()), both)
                self.assertEqual(list(joined(other, joined(one, other)).items()), both)
                self.assertEqual(joined(one, one), one)

    def test_in_any_brackets(self):
        for one, two, three in product(PAGES, repeat=3):
            told = list(joined(joined(one, two), three).items())
            self.assertEqual(list(joined(one, joined(two, three)).items()), told)
            self.assertEqual(list(joined(three, joined(two, one)).items()), told)

    def test_every_row_of_many_comes_to_the_same_page(self):
        some = (PAGES[5], PAGES[7], PAGES[8], PAGES[9], PAGES[10])
        told = joined(joined(joined(joined(some[0], some[1]), some[2]), some[3]), some[4])
        for row in permutations(some):
            page = {}
            for heard in row + row[:2]:
                page = joined(page, heard)
            self.assertEqual(list(page.items()), list(told.items()))

    def test_a_name_s_share_in_the_page_joined_is_the_greater_of_both(self):
        for one, other in product(PAGES, repeat=2):
            for name in ("a", "anna", "ann", "ben", "nobody"):
                both = greater(share_of(one, name), share_of(other, name))
                self.assertEqual(share_of(joined(one, other), name), both)


class WhatIsHandedIn(unittest.TestCase):
    def test_both_pages_stay_as_they_were(self):
        for one, other in product(PAGES, repeat=2):
            with self.subTest(one=one, other=other):
                mine, theirs = dict(one), dict(other)
                joined(mine, theirs)
                lacking(mine, theirs)
                knows(mine, theirs)
                total(mine)
                share_of(mine, "nobody")
                self.assertEqual(list(mine.items()), list(one.items()))
                self.assertEqual(list(theirs.items()), list(other.items()))

    def test_what_is_done_to_a_told_page_changes_nothing_else(self):
        for one, other in product(PAGES, repeat=2):
            for work in (joined, lacking):
                with self.subTest(one=one, other=other, work=work):
                    mine, theirs = dict(one), dict(other)
                    told = work(mine, theirs)
                    before = dict(told)
                    told.clear()
                    told["odd"] = (9, 9)
                    self.assertEqual(list(mine.items()), list(one.items()))
                    self.assertEqual(list(theirs.items()), list(other.items()))
                    self.assertEqual(work(mine, theirs), before)

    def test_what_is_done_to_a_page_handed_in_changes_no_told_page(self):
        for one, other in product(PAGES, repeat=2):
            for work in (joined, lacking):
                with self.subTest(one=one, other=other, work=work):
                    mine, theirs = dict(one), dict(other)
                    told = work(mine, theirs)
                    before = dict(told)
                    for page in (mine, theirs):
                        page.clear()
                        page["odd"] = (9, 9)
                    self.assertEqual(told, before)

    def test_each_call_tells_a_new_page(self):
        for one, other in product(PAGES, repeat=2):
            for work in (joined, lacking):
                with self.subTest(one=one, other=other, work=work):
                    told = work(one, other)
                    self.assertIsNot(told, one)
                    self.assertIsNot(told, other)
                    self.assertIsNot(told, work(one, other))

    def test_a_page_with_itself(self):
        page = {"ben": (0, 1), "anna": (5, 2)}
        told = joined(page, page)
        self.assertIsNot(told, page)
        self.assertEqual(list(told), ["anna", "ben"])
        self.assertEqual(list(page), ["ben", "anna"])

    def test_dicts_of_other_classes_are_told_as_plain_ones(self):
        page = OrderedDict([("ben", (0, 1)), ("anna", (5, 2))])
        self.assertIs(is_page(page), True)
        self.assertIs(type(joined(page, page)), dict)
        self.assertIs(type(lacking({}, page)), dict)


if __name__ == "__main__":
    unittest.main()
