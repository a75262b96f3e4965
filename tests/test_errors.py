"""The interface of gossipcount/errors.py."""

import unittest

from gossipcount.errors import Forged, GossipError, NoAmount, NoName, NoNote, NoPage

REFUSALS = (NoName, NoAmount, NoPage, Forged, NoNote)


class TheErrors(unittest.TestCase):
    def test_each_is_caught_by_its_own_class_by_gossip_error_and_by_value_error(self):
        for refusal in REFUSALS:
            for catcher in (refusal, GossipError, ValueError):
                with self.subTest(refusal=refusal, catcher=catcher):
                    with self.assertRaises(catcher):
                        raise refusal("refused")

    def test_none_is_caught_by_another_of_the_five(self):
        for refusal in REFUSALS:
            for other in REFUSALS:
                if other is refusal:
                    continue
                with self.subTest(refusal=refusal, other=other):
                    self.assertFalse(issubclass(refusal, other))
                    self.assertFalse(isinstance(refusal("refused"), other))

    def test_gossip_error_stands_under_value_error_and_under_none_of_the_five(self):
        self.assertTrue(issubclass(GossipError, ValueError))
        self.assertIsNot(GossipError, ValueError)
        for refusal in REFUSALS:
            with self.subTest(refusal=refusal):
                self.assertFalse(issubclass(GossipError, refusal))

    def test_the_message_is_told(self):
        for refusal in REFUSALS + (GossipError,):
            with self.subTest(refusal=refusal):
                self.assertEqual(str(refusal("why it was refused")), "why it was refused")


if __name__ == "__main__":
    unittest.main()
