/-
  HOUR: HourDates.
-/
import Derived.Test.YtholkbgkkfndhaaHour6
namespace Go.Proofs.Ytholkbgkkfndhaa
open Go.RowKit

set_option maxHeartbeats 4000000 in
theorem dates_walk (y m d n : Int) (w : World) (fd : -9223372036854775808 ≤ d) (fd2 : d ≤ 9223372036854775807) (fn : n ≤ 9223372036854775807) : Calls Try.prog 3 #[.int .i64 y, .int .i64 m, .int .i64 d, .int .i64 n] w fun e w' => e = .returned (.bool true) ∧ Below w.heap.size w w' := by
  go_enter Try.func3, Try.ntmps3
  go_wp2_with fail
  refine (days_any y m d _).mono ?_
  rintro e w1 ⟨rfl, hb1⟩
  have h01 := Lib.hid hb1
  clear hb1
  go_wp2_with fail
  refine (refdays_any y m d _ fd fd2).mono ?_
  rintro e w2 ⟨rfl, hb2⟩
  have h02 := Lib.hid (h01.out.trans (hb2.mono h01.out.size))
  clear hb2
  obtain ⟨⟨r1, r2⟩, hr⟩ : ∃ r, daysR y m d = r := ⟨_, rfl⟩
  rw [hr]
  clear hr
  simp only
  go_wp2_with fail
  refine (date_any n _).mono ?_
  rintro e w3 ⟨hd, hb3⟩
  have h03 := Lib.hid (h02.out.trans (hb3.mono h02.out.size))
  clear hb3
  rcases hd with ⟨hn0, hn1, y1, m1, d1, rfl, hd1, -⟩ | ⟨hn, rfl⟩
  · have HD := Lib.hid hd1
    clear hd1
    go_wp2_with fail
    refine (refdate_any n _ fn).mono ?_
    rintro e w4 ⟨hd, hb4⟩
    have h04 := Lib.hid (h03.out.trans (hb4.mono h03.out.size))
    clear hb4
    rcases hd with ⟨-, -, y2, m2, d2, rfl, hd2, -⟩ | ⟨hn, rfl⟩
    · obtain ⟨rfl, rfl, rfl⟩ := date_unique HD.out hd2
      clear hd2
      go_wp2_with fail
      go_ret
      exact ⟨rfl, h04.out⟩
    · exact absurd ⟨hn0, hn1⟩ hn
  · have HN := Lib.hid hn
    clear hn
    go_wp2_with fail
    refine (refdate_any n _ fn).mono ?_
    rintro e w4 ⟨hd, hb4⟩
    have h04 := Lib.hid (h03.out.trans (hb4.mono h03.out.size))
    clear hb4
    rcases hd with ⟨hn0, hn1, y2, m2, d2, rfl, hd2, -⟩ | ⟨hn, rfl⟩
    · exact absurd ⟨hn0, hn1⟩ HN.out
    · clear hn
      go_wp2_with fail
      go_ret
      exact ⟨rfl, h04.out⟩

end Go.Proofs.Ytholkbgkkfndhaa
