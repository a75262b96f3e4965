"""Points 7, 8 and 9: hands."""

import unittest
from itertools import permutations, product

from gossipcount.errors import Forged, NoAmount, NoName, NoPage
from gossipcount.hands import Hand
from gossipcount.pages import is_page, joined, knows, lacking, total
from tests.samples import MOST, NO_AMOUNTS, NO_NAMES, NO_PAGES, names_of, page_of

# What may be heard by a hand named anna that is told as in anna_with below.
HEARD = (
    {},
    {"ben": (0, 1)},
    {"ben": (7, 7)},
    {"carl": (2, 0), "ben": (3, 0)},
    {"anna": (5, 2)},
    {"anna": (4, 1), "zoe": (1, 1)},
    {"zoe": (MOST, MOST), "b": (0, MOST)},
)


def anna_with(page):
    """A hand named anna that has raised by 5, lowered by 2 and heard a page."""
    hand = Hand("anna")
    hand.up(5)
    hand.down(2)
    hand.hear(page)
    return hand


def state(hand):
    """All that a hand tells of itself, its names in their order."""
    return hand.name, list(hand.page().items()), hand.told()


def assert_no_page_refused(case, hand, call):
    """What is no page is refused by a call of the hand, and changes nothing."""
    before = state(hand)
    for thing in NO_PAGES + (page_of(201),):
        with case.subTest(thing=thing):
            with case.assertRaises(NoPage):
                call(thing)
            case.assertEqual(state(hand), before)


class ANewHand(unittest.TestCase):
    def test_its_name_its_page_and_its_total(self):
        for name in ("a", "z", "ab", "anna", "nobody", "abcdefgh", "zzzzzzzz"):
            with self.subTest(name=name):
                hand = Hand(name)
                self.assertEqual(hand.name, name)
                self.assertEqual(hand.page(), {})
                self.assertEqual(hand.told(), 0)

    def test_what_is_no_name_is_refused(self):
        for thing in NO_NAMES:
            with self.subTest(thing=thing):
                with self.assertRaises(NoName):
                    Hand(thing)

    def test_two_hands_of_one_name_keep_to_themselves(self):
        one, other = Hand("anna"), Hand("anna")
        one.up(3)
        self.assertEqual(state(other), ("anna", [], 0))


class Counting(unittest.TestCase):
    def test_raises_grow_the_first_number_and_lowers_the_second_one(self):
        hand = Hand("anna")
        steps = (
            (hand.up, 5, 5, (5, 0)), (hand.up, 1, 6, (6, 0)), (hand.down, 2, 4, (6, 2)), (hand.down, 9, -5, (6, 11)),
            (hand.up, 5, 0, (11, 11)), (hand.down, 1, -1, (11, 12)), (hand.up, 1000000000, 999999999, (1000000011, 12)),
            (hand.down, 1000000000, -1, (1000000011, 1000000012)),
        )
        for deed, many, told, share in steps:
            with self.subTest(share=share):
                self.assertEqual(deed(many), told)
                self.assertEqual(hand.told(), told)
                self.assertEqual(hand.page(), {"anna": share})

    def test_the_edges_of_amounts(self):
        for many in (1, 2, 999999999, 1000000000):
            with self.subTest(many=many):
                one, other = Hand("anna"), Hand("ben")
                self.assertEqual(one.up(many), many)
                self.assertEqual(one.page(), {"anna": (many, 0)})
                self.assertEqual(other.down(many), -many)
                self.assertEqual(other.page(), {"ben": (0, many)})

    def test_the_total_is_that_of_the_whole_page(self):
        hand = Hand("ben")
        hand.hear({"carl": (10, 3), "anna": (0, 20)})
        self.assertEqual(hand.told(), -13)
        self.assertEqual(hand.up(1), -12)
        self.assertEqual(hand.down(4), -16)
        self.assertEqual(hand.told(), -16)
        self.assertEqual(list(hand.page().items()), [("anna", (0, 20)), ("ben", (1, 4)), ("carl", (10, 3))])

    def test_whole_numbers_are_told(self):
        hand = Hand("anna")
        for told in (hand.told(), hand.up(1), hand.down(2), hand.hear({}), hand.hear({"ben": (1, 0)})):
            self.assertIs(type(told), int)
        self.assertEqual([type(number) for number in hand.page()["anna"]], [int, int])
        self.assertIs(type(hand.page()["anna"]), tuple)

    def test_what_is_no_amount_is_refused_and_changes_nothing(self):
        for hand in (Hand("anna"), anna_with({}), anna_with({"ben": (3, 0)})):
            before = state(hand)
            for thing in NO_AMOUNTS:
                for deed in (hand.up, hand.down):
                    with self.subTest(thing=str(type(thing)), deed=deed):
                        with self.assertRaises(NoAmount):
                            deed(thing)
                        self.assertEqual(state(hand), before)

    def test_the_sum_of_many_deeds(self):
        hand = Hand("anna")
        for at in range(1, 301):
            hand.up(at)
            hand.down(at // 2 + 1)
        self.assertEqual(hand.page(), {"anna": (45150, 22800)})
        self.assertEqual(hand.told(), 22350)

    def test_a_share_grows_past_all_small_numbers(self):
        hand = Hand("anna")
        for _ in range(20):
            hand.up(1000000000)
        self.assertEqual(hand.page(), {"anna": (20000000000, 0)})


class ItsPage(unittest.TestCase):
    def test_names_rise_whenever_they_came(self):
        for names in permutations(("a", "ab", "anna", "annab", "b")):
            hand = Hand("anna")
            for name in names:
                if name == "anna":
                    hand.up(1)
                else:
                    hand.hear({name: (1, 0)})
            self.assertEqual(list(hand.page()), ["a", "ab", "anna", "annab", "b"])

    def test_what_is_done_to_it_changes_nothing_in_the_hand(self):
        for hand in (Hand("anna"), anna_with({"ben": (3, 0), "carl": (1, 1)})):
            before = state(hand)
            page = hand.page()
            page["ben"] = (99, 0)
            page["odd"] = (1, 1)
            self.assertEqual(state(hand), before)
            page.clear()
            self.assertEqual(state(hand), before)
            self.assertEqual(hand.letter({}), dict(before[1]))

    def test_each_call_tells_a_new_one(self):
        hand = anna_with({"ben": (3, 0)})
        self.assertIsNot(hand.page(), hand.page())
        self.assertIs(type(hand.page()), dict)

    def test_a_page_told_stays_as_it_was_when_the_hand_goes_on(self):
        hand = anna_with({"ben": (3, 0)})
        page = hand.page()
        hand.up(1)
        hand.hear({"ben": (4, 0), "zoe": (1, 0)})
        self.assertEqual(page, {"anna": (5, 2), "ben": (3, 0)})


class Letters(unittest.TestCase):
    def test_what_the_page_lacks_of_the_hand_s_page(self):
        hand = anna_with({"ben": (3, 0), "carl": (0, 4)})
        cases = (
            ({}, {"anna": (5, 2), "ben": (3, 0), "carl": (0, 4)}),
            ({"anna": (5, 2)}, {"ben": (3, 0), "carl": (0, 4)}),
            ({"anna": (5, 1)}, {"anna": (5, 2), "ben": (3, 0), "carl": (0, 4)}),
            ({"anna": (5, 2), "ben": (3, 0), "carl": (0, 4)}, {}),
            ({"carl": (0, 4), "ben": (3, 0), "anna": (5, 2)}, {}),
            ({"anna": (4, 2), "ben": (9, 9), "zoe": (1, 0)}, {"anna": (5, 2), "carl": (0, 4)}),
            ({"zoe": (1, 0), "ben": (0, 3), "carl": (1, 4)}, {"anna": (5, 2), "ben": (3, 0)}),
        )
        for page, letter in cases:
            with self.subTest(page=page):
                self.assertEqual(hand.letter(page), letter)
                self.assertIs(type(hand.letter(page)), dict)

    def test_it_is_that_of_lacking_with_names_rising(self):
        for heard, page in product(HEARD, repeat=2):
            with self.subTest(heard=heard, page=page):
                hand = anna_with(heard)
                before = state(hand)
                letter = hand.letter(dict(page))
                self.assertEqual(letter, lacking(page, hand.page()))
                self.assertEqual(list(letter), sorted(letter))
                self.assertEqual(joined(page, letter), joined(page, hand.page()))
                self.assertEqual(state(hand), before)

    def test_a_hand_that_has_heard_of_nothing_writes_nothing(self):
        for page in HEARD:
            self.assertEqual(Hand("anna").letter(page), {})

    def test_a_page_that_is_not_trusted_gets_a_letter_too(self):
        hand = anna_with({"ben": (3, 0)})
        for share in ((6, 2), (5, 3), (99, 99), (MOST, MOST)):
            with self.subTest(share=share):
                self.assertEqual(hand.letter({"anna": share}), {"ben": (3, 0)})
        self.assertEqual(hand.letter({"anna": (99, 1)}), {"anna": (5, 2), "ben": (3, 0)})

    def test_what_is_no_page_is_refused_and_changes_nothing(self):
        for hand in (Hand("anna"), anna_with({"ben": (3, 0)})):
            assert_no_page_refused(self, hand, hand.letter)

    def test_pages_of_200_names(self):
        hand = Hand("anna")
        hand.hear(page_of(200))
        self.assertEqual(hand.letter({}), page_of(200))
        self.assertEqual(hand.letter(page_of(200)), {})
        self.assertEqual(len(hand.letter(page_of(150))), 50)

    def test_neither_page_is_kept_or_changed(self):
        hand = anna_with({"ben": (3, 0)})
        before = state(hand)
        page = {"zoe": (1, 0), "ben": (1, 0)}
        letter = hand.letter(page)
        self.assertEqual(list(page.items()), [("zoe", (1, 0)), ("ben", (1, 0))])
        letter["ben"] = (99, 0)
        letter.clear()
        self.assertEqual(list(page.items()), [("zoe", (1, 0)), ("ben", (1, 0))])
        self.assertEqual(state(hand), before)
        letter = hand.letter(page)
        page.clear()
        self.assertEqual(letter, {"anna": (5, 2), "ben": (3, 0)})
        self.assertIsNot(hand.letter({}), hand.letter({}))


class Trusting(unittest.TestCase):
    def test_nobody_knows_more_of_its_deeds_than_itself(self):
        hand = anna_with({"ben": (3, 0)})
        cases = (
            ({}, True),
            ({"ben": (99, 99)}, True),
            ({"ann": (9, 9), "annaa": (9, 9), "zoe": (MOST, MOST)}, True),
            ({"anna": (5, 2)}, True),
            ({"anna": (4, 2)}, True),
            ({"anna": (5, 1)}, True),
            ({"anna": (0, 1)}, True),
            ({"anna": (1, 0)}, True),
            ({"anna": (6, 2)}, False),
            ({"anna": (5, 3)}, False),
            ({"anna": (6, 1)}, False),
            ({"anna": (4, 3)}, False),
            ({"anna": (2, 5)}, False),
            ({"anna": (MOST, MOST)}, False),
            ({"ben": (1, 0), "anna": (6, 0)}, False),
        )
        before = state(hand)
        for page, told in cases:
            with self.subTest(page=page):
                handed = dict(page)
                self.assertIs(hand.trusts(handed), told)
                self.assertEqual(list(handed.items()), list(page.items()))
                self.assertEqual(state(hand), before)

    def test_a_hand_without_deeds(self):
        hand = Hand("anna")
        self.assertIs(hand.trusts({}), True)
        self.assertIs(hand.trusts({"ben": (1, 0)}), True)
        self.assertIs(hand.trusts({"anna": (1, 0)}), False)
        self.assertIs(hand.trusts({"anna": (0, 1)}), False)

    def test_what_it_does_not_trust_it_trusts_when_its_deeds_reach_it(self):
        hand = Hand("anna")
        page = {"anna": (2, 1)}
        self.assertIs(hand.trusts(page), False)
        hand.up(2)
        self.assertIs(hand.trusts(page), False)
        hand.down(1)
        self.assertIs(hand.trusts(page), True)


class Hearing(unittest.TestCase):
    def test_both_joined_and_how_many_shares_have_changed(self):
        hand = anna_with({})
        steps = (
            ({}, 0, {"anna": (5, 2)}),
            ({"ben": (0, 1)}, 1, {"anna": (5, 2), "ben": (0, 1)}),
            ({"ben": (0, 1)}, 0, {"anna": (5, 2), "ben": (0, 1)}),
            ({"ben": (3, 0)}, 1, {"anna": (5, 2), "ben": (3, 1)}),
            ({"ben": (2, 1)}, 0, {"anna": (5, 2), "ben": (3, 1)}),
            ({"anna": (4, 2), "ben": (3, 1)}, 0, {"anna": (5, 2), "ben": (3, 1)}),
            ({"zoe": (1, 1), "anna": (5, 2), "ben": (0, 2)}, 2, {"anna": (5, 2), "ben": (3, 2), "zoe": (1, 1)}),
            ({"zoe": (1, 1), "carl": (0, 9), "b": (1, 0)}, 2,
             {"anna": (5, 2), "b": (1, 0), "ben": (3, 2), "carl": (0, 9), "zoe": (1, 1)}),
        )
        for page, told, then in steps:
            with self.subTest(page=page):
                self.assertEqual(hand.hear(page), told)
                self.assertEqual(list(hand.page().items()), list(then.items()))
                self.assertEqual(hand.told(), total(then))

    def test_of_all_pages(self):
        for first, second in product(HEARD, repeat=2):
            with self.subTest(first=first, second=second):
                hand = anna_with(first)
                before = hand.page()
                told = hand.hear(second)
                then = hand.page()
                self.assertEqual(then, joined(before, second))
                self.assertEqual(told, len([name for name in then if then[name] != before.get(name)]))
                self.assertIs(is_page(then), True)
                self.assertEqual(hand.hear(second), 0)
                self.assertEqual(hand.hear(before), 0)
                self.assertEqual(hand.page(), then)

    def test_in_any_order_and_again(self):
        told = list(anna_with(joined(joined(HEARD[2], HEARD[3]), joined(HEARD[5], HEARD[6]))).page().items())
        for row in permutations((HEARD[2], HEARD[3], HEARD[5], HEARD[6])):
            hand = anna_with({})
            for page in row + row[:2]:
                hand.hear(page)
            self.assertEqual(list(hand.page().items()), told)

    def test_a_letter_is_heard_as_the_whole_page(self):
        for first, second in product(HEARD, repeat=2):
            with self.subTest(first=first, second=second):
                writer = Hand("writer")
                writer.hear(first)
                by_letter, by_page = anna_with(second), anna_with(second)
                told = by_letter.hear(writer.letter(by_letter.page()))
                self.assertEqual(told, by_page.hear(writer.page()))
                self.assertEqual(state(by_letter), state(by_page))
                self.assertIs(knows(by_letter.page(), writer.page()), True)

    def test_pages_of_200_names(self):
        hand = Hand("anna")
        self.assertEqual(hand.hear(page_of(200)), 200)
        self.assertEqual(hand.hear(page_of(200)), 0)
        self.assertEqual(hand.page(), page_of(200))
        self.assertEqual(hand.told(), 200)

    def test_a_hand_that_knows_of_more_than_200_goes_on(self):
        hand = Hand("anna")
        hand.up(7)
        self.assertEqual(hand.hear(page_of(200)), 200)
        self.assertEqual(hand.up(1), 208)
        self.assertEqual(hand.hear({"zoe": (1, 0)}), 1)
        self.assertEqual(hand.down(9), 200)
        self.assertEqual(len(hand.letter({})), 202)
        self.assertEqual(len(hand.page()), 202)

    def test_what_is_no_page_is_refused_and_changes_nothing(self):
        for hand in (Hand("anna"), anna_with({"ben": (3, 0)})):
            assert_no_page_refused(self, hand, hand.hear)

    def test_what_it_does_not_trust_is_refused_and_changes_nothing(self):
        for share in ((6, 2), (5, 3), (6, 1), (2, 5), (MOST, MOST)):
            for more in ({}, {"ben": (9, 9)}, {"zoe": (1, 0), "ben": (3, 0)}, dict(list(page_of(200).items())[:199])):
                with self.subTest(share=share, more=len(more)):
                    hand = anna_with({"ben": (3, 0)})
                    before = state(hand)
                    page = dict(more, anna=share)
                    with self.assertRaises(Forged):
                        hand.hear(page)
                    self.assertEqual(state(hand), before)
                    self.assertEqual(page, dict(more, anna=share))

    def test_a_hand_without_deeds_trusts_no_deeds_of_its_own(self):
        hand = Hand("anna")
        for share in ((1, 0), (0, 1), (1, 1)):
            with self.assertRaises(Forged):
                hand.hear({"anna": share, "ben": (1, 0)})
            self.assertEqual(state(hand), ("anna", [], 0))

    def test_no_page_comes_ahead_of_forged(self):
        hand = anna_with({"ben": (3, 0)})
        before = state(hand)
        forged = {"anna": (6, 2)}
        cases = [dict(forged, **{name: (1, 0) for name in names_of(200)})]
        for name, share in (("ben", (0, 0)), ("ben", [1, 0]), ("ben", (True, 0)), ("Ben", (1, 0)), ("", (1, 0))):
            cases += [{"anna": (6, 2), name: share}, {name: share, "anna": (6, 2)}]
        cases += [{"anna": share} for share in ((6, -2), (10 ** 60, 2), (6, 2, 0), [6, 2], (6, True), (6, "2"))]
        for page in cases:
            with self.subTest(page=page):
                with self.assertRaises(NoPage):
                    hand.hear(page)
                self.assertEqual(state(hand), before)

    def test_it_goes_on_behind_a_refusal(self):
        hand = anna_with({})
        for wrong, refusal in (({"anna": (6, 2)}, Forged), (None, NoPage), ({"ben": (0, 0)}, NoPage)):
            with self.assertRaises(refusal):
                hand.hear(wrong)
        self.assertEqual(hand.hear({"ben": (1, 0)}), 1)
        self.assertEqual(hand.up(1), 5)

    def test_what_was_heard_is_neither_kept_nor_changed(self):
        hand = Hand("anna")
        page = {"zoe": (1, 0), "ben": (3, 0)}
        hand.hear(page)
        hand.up(2)
        hand.hear({"ben": (4, 0)})
        self.assertEqual(list(page.items()), [("zoe", (1, 0)), ("ben", (3, 0))])
        before = state(hand)
        page["ben"] = (99, 0)
        page.clear()
        self.assertEqual(state(hand), before)
        self.assertEqual(before, ("anna", [("anna", (2, 0)), ("ben", (4, 0)), ("zoe", (1, 0))], 7))

    def test_two_that_heard_one_page_keep_to_themselves(self):
        page = {"zoe": (1, 0)}
        one, other = Hand("anna"), Hand("ben")
        one.hear(page)
        other.hear(page)
        other.hear(one.page())
        one.hear({"zoe": (2, 0)})
        one.up(1)
        self.assertEqual(state(other), ("ben", [("zoe", (1, 0))], 1))


if __name__ == "__main__":
    unittest.main()
