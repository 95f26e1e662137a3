"""Promise 3: sm_finish."""

import unittest
from fractions import Fraction
from math import floor

from picturestack.pictures import sm_drop, sm_finish
from tests.support import assert_plain_answer, assert_same_twice, pattern

GREATEST_SUM = 2 ** 64 - 1


def finish_by_fractions(sums, much):
    answer = [0]
    for total, part in zip(sums, much):
        answer.append(floor(Fraction(total, part) + Fraction(1, 2)) % 2 ** 32 if part else 0)
    return answer


class Ordinary(unittest.TestCase):
    def test_quotients(self):
        self.assertEqual(sm_finish([4096, 8192, 0, 100], [4096, 4096, 4096, 7]), [0, 1, 2, 0, 14])

    def test_the_nearest(self):
        self.assertEqual(sm_finish([9, 10, 11, 12], [5, 5, 5, 5]), [0, 2, 2, 2, 2])
        self.assertEqual(sm_finish([12, 13], [5, 5]), [0, 2, 3])

    def test_what_was_dropped(self):
        # On its own grid a picture comes back as it was.
        f = pattern(64)
        dropped = sm_drop(1, 64, 0, 0, 8, 8, 8, 8, f)
        self.assertEqual(sm_finish(dropped[2:66], dropped[67:]), [0] + f)

    def test_against_fractions(self):
        sums = [number ** 4 % 2 ** 64 for number in pattern(500)]
        for step in (1, 3, 31, 613):
            much = [number % (step + 1) * (number % 4099) for number in pattern(500, step)]
            self.assertEqual(sm_finish(sums, much), finish_by_fractions(sums, much))

    def test_the_form_of_the_answer(self):
        got = sm_finish(pattern(30), pattern(30, 31))
        self.assertEqual(len(got), 31)
        self.assertEqual(got[0], 0)
        assert_plain_answer(self, got)


class Edges(unittest.TestCase):
    def test_just_between_two_whole_numbers_is_the_greater(self):
        self.assertEqual(sm_finish([1, 3, 5, 7], [2, 2, 2, 2]), [0, 1, 2, 3, 4])
        self.assertEqual(sm_finish([2048, 2047, 2049, 6144], [4096] * 4), [0, 1, 0, 1, 2])
        self.assertEqual(sm_finish([1, 1, 1], [2, 3, 1]), [0, 1, 0, 1])

    def test_0_where_nothing_overlapped(self):
        self.assertEqual(sm_finish([0, 5, GREATEST_SUM], [0, 0, 0]), [0, 0, 0, 0])
        self.assertEqual(sm_finish([6, 5, 8], [2, 0, 4]), [0, 3, 0, 2])

    def test_sums_of_0(self):
        self.assertEqual(sm_finish([0, 0, 0], [1, 4096, 4294967295]), [0, 0, 0, 0])

    def test_modulo_2_32(self):
        self.assertEqual(sm_finish([2 ** 32 - 1, 2 ** 32, 2 ** 32 + 5], [1, 1, 1]), [0, 4294967295, 0, 5])
        # Half less than 2^32 is rounded to it.
        self.assertEqual(sm_finish([2 ** 33 - 1, 2 ** 33 - 2, 2 ** 33 - 3], [2, 2, 2]), [0, 0, 4294967295, 4294967295])
        self.assertEqual(sm_finish([2 ** 63], [2 ** 31]), [0, 0])

    def test_the_greatest_sums(self):
        # 2^64 - 1 is 2^32 - 1 times 2^32 + 1.
        self.assertEqual(sm_finish([GREATEST_SUM, GREATEST_SUM], [1, 4294967295]), [0, 4294967295, 1])
        # By 2 it is 2^63 - 1/2, rounded 2^63; by 3 it is 6148914691236517205, 1431655765 modulo 2^32.
        self.assertEqual(sm_finish([GREATEST_SUM, GREATEST_SUM], [2, 3]), [0, 0, 1431655765])
        self.assertEqual(sm_finish([GREATEST_SUM - 1], [1]), [0, 4294967294])

    def test_great_parts(self):
        half = 2147483648
        self.assertEqual(sm_finish([half, half - 1], [4294967295, 4294967295]), [0, 1, 0])
        self.assertEqual(sm_finish([half - 1, half - 2], [4294967294, 4294967294]), [0, 1, 0])

    def test_no_numbers(self):
        self.assertEqual(sm_finish([], []), [0])

    def test_one_number(self):
        self.assertEqual(sm_finish([10], [4]), [0, 3])

    def test_as_many_as_may_be(self):
        for count in (4095, 4096):
            sums, much = pattern(count), [number % 100 for number in pattern(count, 31)]
            self.assertEqual(sm_finish(sums, much), finish_by_fractions(sums, much))


class WrongInputs(unittest.TestCase):
    def test_more_than_4096(self):
        for count in (4097, 4098, 5000):
            self.assertEqual(sm_finish([1] * count, [1] * count), [-2])
            self.assertEqual(sm_finish([0] * count, [0] * count), [-2])


class StandsAlone(unittest.TestCase):
    def test_nothing_is_changed_or_kept(self):
        lists = [pattern(40), [number % 50 for number in pattern(40, 31)]]
        kept = assert_same_twice(self, sm_finish, [], lists)
        sm_finish([1, 2], [3, 4])
        sm_finish([1] * 4097, [1] * 4097)
        self.assertEqual(assert_same_twice(self, sm_finish, [], lists), kept)

    def test_no_numbers_twice(self):
        self.assertEqual(assert_same_twice(self, sm_finish, [], [[], []]), [0])

    def test_a_refusal_is_the_same_twice(self):
        self.assertEqual(assert_same_twice(self, sm_finish, [], [pattern(4097), pattern(4097)]), [-2])


if __name__ == "__main__":
    unittest.main()
