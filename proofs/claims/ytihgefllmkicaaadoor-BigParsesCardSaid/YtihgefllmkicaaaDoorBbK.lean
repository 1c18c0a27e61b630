/- Plain: the walk of BigParses. Conditions: the table lies. -/
import Derived.Test.YtihgefllmkicaaaDoorRbF
import Derived.Test.YtihgefllmkicaaaDoorBbI
namespace Go.Proofs.YtihgefllmkicaaaDoor
open Go.RowKit Bg
set_option linter.unusedVariables false
set_option linter.unusedSimpArgs false


set_option maxRecDepth 100000 in
set_option maxHeartbeats 40000000 in
theorem parses_any (t : ByteArray) (w : World) (ht : Tab w) : Calls Tryd.prog 4 #[.string t] w fun e w' => e = .returned (.bool true) ∧ Below w.heap.size w w' := by
  have H0 := Lib.hid (And.intro ht (Below.refl w.heap.size w))
  clear ht
  go_enter Tryd.func4, Tryd.ntmps4
  by_cases h3 : t.size ≤ 300
  case neg =>
    have q1 : decide ((t.size : Int) > 300) = true := by rw [decide_eq_true_eq]; omega
    go_wp2_with fail
    refine (awake_at H0.out.1).mono ?_
    rintro e w11 ⟨rfl, B11⟩
    have H1 := Lib.hid (And.intro (H0.out.1.below B11) (H0.out.2.trans (B11.mono H0.out.2.size)))
    clear B11
    go_wp2_with fail
    go_ret
    exact ⟨rfl, H1.out.2⟩
  have q1 : decide ((t.size : Int) > 300) = false := by rw [decide_eq_false_iff_not]; omega
  by_cases hd : isDec (pBody t) = true
  · go_wp2_with fail
    refine (parse_good (x := pVal t) h3 hd rfl w).mono ?_
    rintro e w11 ⟨v11, rfl, m11, B11⟩
    obtain ⟨s11, p11, c11, D11, rfl, n11, k11, -⟩ := gives_of (n := 150) m11 (read_bnd h3 hd)
    have H1 := Lib.hid (And.intro (H0.out.1.below B11) (And.intro (H0.out.2.trans (B11.mono H0.out.2.size)) (And.intro n11 k11)))
    clear n11 k11 m11 B11
    obtain ⟨w12, hw12⟩ : ∃ w12, w12 = w11.alloc (.cells #[.bool s11, .slice p11 D11.length c11] 24) := ⟨_, rfl⟩
    have B12 : Below w11.heap.size w11 w12 := by rw [hw12]; exact (Below.refl _ _).alloc (Nat.le_refl _) _
    have X12 : Box w12 w11.heap.size (.bool s11) (.slice p11 D11.length c11) := by rw [hw12]; exact Box.fresh _ _ _ rfl
    have H2 := Lib.hid (And.intro (H1.out.1.below B12) (And.intro (H1.out.2.1.trans (B12.mono H1.out.2.1.size)) (And.intro (H1.out.2.2.1.below B12) (And.intro (H1.out.2.2.2.below B12) X12))))
    clear X12 B12
    go_upto_region 4 with fail
    rw [← hw12]
    clear hw12
    go_wp2_with fail
    refine (rparse_at t (by omega) w12).mono ?_
    rintro e w13 ⟨hR, B13⟩
    rcases hR with ⟨-, s13, p13, c13, D13, rfl, n13, z13⟩ | ⟨hno, -⟩
    case inr => rw [hd] at hno; cases hno
    have H3 := Lib.hid (And.intro (H2.out.1.below B13) (And.intro (H2.out.2.1.trans (B13.mono H2.out.2.1.size)) (And.intro (H2.out.2.2.1.below B13) (And.intro (H2.out.2.2.2.1.below B13) (And.intro (H2.out.2.2.2.2.below B13) n13)))))
    clear n13 B13
    obtain ⟨w14, hw14⟩ : ∃ w14, w14 = w13.alloc (.cells #[.bool s13, .slice p13 D13.length c13] 28) := ⟨_, rfl⟩
    have B14 : Below w13.heap.size w13 w14 := by rw [hw14]; exact (Below.refl _ _).alloc (Nat.le_refl _) _
    have X14 : Box w14 w13.heap.size (.bool s13) (.slice p13 D13.length c13) := by rw [hw14]; exact box_fresh 28 _ _ _ rfl
    have H4 := Lib.hid (And.intro (H3.out.1.below B14) (And.intro (H3.out.2.1.trans (B14.mono H3.out.2.1.size)) (And.intro (H3.out.2.2.1.below B14) (And.intro (H3.out.2.2.2.1.below B14) (And.intro (H3.out.2.2.2.2.1.below B14) (And.intro (H3.out.2.2.2.2.2.below B14) X14))))))
    clear X14 B14
    go_upto_region 5 with fail
    rw [← hw14]
    clear hw14
    have yXa := H4.out.2.2.2.2.1
    have yXa0 := yXa.c0
    have yXa1 := yXa.c1
    clear yXa
    have yXb := H4.out.2.2.2.2.2.2
    have yXb0 := yXb.c0
    have yXb1 := yXb.c1
    clear yXb
    go_wp2_with fail
    refine (alike_at H4.out.2.2.1.toNm H4.out.2.2.2.1 H4.out.2.2.2.2.2.1 (by omega)).mono ?_
    rintro e w15 ⟨rfl, B15⟩
    have H5 := Lib.hid (And.intro (H4.out.1.below B15) (And.intro (H4.out.2.1.trans (B15.mono H4.out.2.1.size)) (And.intro (H4.out.2.2.1.below B15) (And.intro (H4.out.2.2.2.1.below B15) (And.intro (H4.out.2.2.2.2.1.below B15) (And.intro (H4.out.2.2.2.2.2.1.below B15) (H4.out.2.2.2.2.2.2.below B15)))))))
    clear B15
    clear yXa0 yXa1
    clear yXb0 yXb1
    go_wp2_with fail
    refine (awake_at H5.out.1).mono ?_
    rintro e w16 ⟨rfl, B16⟩
    have H6 := Lib.hid (And.intro (H5.out.1.below B16) (And.intro (H5.out.2.1.trans (B16.mono H5.out.2.1.size)) (And.intro (H5.out.2.2.1.below B16) (And.intro (H5.out.2.2.2.1.below B16) (And.intro (H5.out.2.2.2.2.1.below B16) (And.intro (H5.out.2.2.2.2.2.1.below B16) (H5.out.2.2.2.2.2.2.below B16)))))))
    clear B16
    go_wp2_with fail
    go_ret
    exact ⟨rfl, H6.out.2.1⟩
  · have hd2 : isDec (pBody t) = false := by simpa using hd
    go_wp2_with fail
    refine (parse_bad h3 hd2 w).mono ?_
    rintro e w11 ⟨rfl, B11⟩
    have H1 := Lib.hid (And.intro (H0.out.1.below B11) (H0.out.2.trans (B11.mono H0.out.2.size)))
    clear B11
    obtain ⟨w12, hw12⟩ : ∃ w12, w12 = w11.alloc (.cells #[.bool false, .slice none 0 0] 24) := ⟨_, rfl⟩
    have B12 : Below w11.heap.size w11 w12 := by rw [hw12]; exact (Below.refl _ _).alloc (Nat.le_refl _) _
    have X12 : Box w12 w11.heap.size (.bool false) (.slice none 0 0) := by rw [hw12]; exact Box.fresh _ _ _ rfl
    have H2 := Lib.hid (And.intro (H1.out.1.below B12) (And.intro (H1.out.2.trans (B12.mono H1.out.2.size)) X12))
    clear X12 B12
    go_upto_region 4 with fail
    rw [← hw12]
    clear hw12
    go_wp2_with fail
    refine (rparse_at t (by omega) w12).mono ?_
    rintro e w13 ⟨hR, B13⟩
    rcases hR with ⟨hno, -⟩ | ⟨-, rfl⟩
    case inl => rw [hd2] at hno; cases hno
    have H3 := Lib.hid (And.intro (H2.out.1.below B13) (And.intro (H2.out.2.1.trans (B13.mono H2.out.2.1.size)) (H2.out.2.2.below B13)))
    clear B13
    obtain ⟨w14, hw14⟩ : ∃ w14, w14 = w13.alloc (.cells #[.bool false, .slice none 0 0] 28) := ⟨_, rfl⟩
    have B14 : Below w13.heap.size w13 w14 := by rw [hw14]; exact (Below.refl _ _).alloc (Nat.le_refl _) _
    have X14 : Box w14 w13.heap.size (.bool false) (.slice none 0 0) := by rw [hw14]; exact box_fresh 28 _ _ _ rfl
    have H4 := Lib.hid (And.intro (H3.out.1.below B14) (And.intro (H3.out.2.1.trans (B14.mono H3.out.2.1.size)) (And.intro (H3.out.2.2.below B14) X14)))
    clear X14 B14
    go_upto_region 5 with fail
    rw [← hw14]
    clear hw14
    have yXa := H4.out.2.2.1
    have yXa0 := yXa.c0
    have yXa1 := yXa.c1
    clear yXa
    have yXb := H4.out.2.2.2
    have yXb0 := yXb.c0
    have yXb1 := yXb.c1
    clear yXb
    go_wp2_with fail
    refine (alike_at (l := []) (D := []) (x := 0) ⟨Arg.nothing _ _, Dig.nil, nv_nil _ _⟩ (can_nil _) ⟨Arg.nothing _ _, can_nil _, nv_nil _ _⟩ (by decide)).mono ?_
    rintro e w15 ⟨rfl, B15⟩
    have H5 := Lib.hid (And.intro (H4.out.1.below B15) (And.intro (H4.out.2.1.trans (B15.mono H4.out.2.1.size)) (And.intro (H4.out.2.2.1.below B15) (H4.out.2.2.2.below B15))))
    clear B15
    clear yXa0 yXa1
    clear yXb0 yXb1
    go_wp2_with fail
    refine (awake_at H5.out.1).mono ?_
    rintro e w16 ⟨rfl, B16⟩
    have H6 := Lib.hid (And.intro (H5.out.1.below B16) (And.intro (H5.out.2.1.trans (B16.mono H5.out.2.1.size)) (And.intro (H5.out.2.2.1.below B16) (H5.out.2.2.2.below B16))))
    clear B16
    go_wp2_with fail
    go_ret
    exact ⟨rfl, H6.out.2.1⟩
end Go.Proofs.YtihgefllmkicaaaDoor
