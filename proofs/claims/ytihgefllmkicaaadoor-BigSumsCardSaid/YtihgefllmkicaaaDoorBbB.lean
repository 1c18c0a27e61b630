/- Contracts: a number without its sign; some answers that the chapter names. Conditions: the digits lie as told; the table lies. -/
import Derived.Test.YtihgefllmkicaaaDoorBbA
import Derived.Test.YtihgefllmkicaaaDoorBaE
import Derived.Test.YtihgefllmkicaaaDoorBgQ
namespace Go.Proofs.YtihgefllmkicaaaDoor
open Go.RowKit Bg
set_option linter.unusedVariables false
set_option linter.unusedSimpArgs false


theorem parse_good {s : ByteArray} {x : Int} (hs : s.size ≤ 300) (hd : isDec (pBody s) = true) (hv : pVal s = x) (w : World) :
    Calls Tryd.prog 22 #[.string s] w fun e w' => ∃ v, e = .returned (.tuple #[v, .int .i64 0]) ∧ IsNum w.heap.size w' v x ∧ Below w.heap.size w w' := by
  refine (parse_at s hs w).mono ?_
  rintro e w' ⟨h, hb⟩
  rcases h with ⟨-, v, he, hn⟩ | ⟨h, -⟩
  · refine ⟨v, he, ?_, hb⟩
    rw [← hv]
    exact hn
  · rw [h] at hd; cases hd
theorem parse_bad {s : ByteArray} (hs : s.size ≤ 300) (hd : isDec (pBody s) = false) (w : World) :
    Calls Tryd.prog 22 #[.string s] w fun e w' => e = .returned (.tuple #[.agg #[.bool false, .slice none 0 0], .int .i64 4]) ∧ Below w.heap.size w w' := by
  refine (parse_at s hs w).mono ?_
  rintro e w' ⟨h, hb⟩
  rcases h with ⟨h, -⟩ | ⟨-, he⟩
  · rw [h] at hd; cases hd
  · exact ⟨he, hb⟩
theorem num_good {s : ByteArray} {x : Int} (hs : s.size ≤ 300) (hd : isDec (pBody s) = true) (hv : pVal s = x) (w : World) :
    Calls Tryd.prog 34 #[.string s] w fun e w' => ∃ v, e = .returned v ∧ IsNum w.heap.size w' v x ∧ Below w.heap.size w w' := by
  rw [← hv]
  exact num_at s hs hd w
set_option maxHeartbeats 4000000 in
theorem positive_at {w : World} {p : Option Addr} {c : Nat} {l : List Int} {s : Bool} {x : Int} (h : Nm w s p c l x) (n1 : l.length ≤ 100000) :
    Calls Tryd.prog 38 #[.agg #[.bool s, .slice p l.length c]] w fun e w' => ∃ v, e = .returned v ∧ IsNum w.heap.size w' v (if s = true then -x else x) ∧ Below w.heap.size w w' := by
  have hx : (if s = true then -x else x) = nv 65536 false l := by rw [← h.val]; unfold nv; cases s <;> simp
  rw [hx]
  clear hx
  obtain ⟨W, hW, hB, hS, h0, h1⟩ := two_boxes w (.bool s) (.slice p l.length c) (.bool false) (.slice none 0 0)
  have x0 := Box.of h0
  have x1 := Box.of h1
  have T := Lib.hid (tidy_at false (h.arg.below hB) h.dig n1)
  have c0 := x0.c0
  have c1 := x0.c1
  have HH := Lib.hid (And.intro hB (And.intro x1 hS))
  clear h h0 h1 x0 x1 hB hS n1
  go_enter Tryd.func38, Tryd.ntmps38
  go_wp2_with fail
  rw [← hW]
  clear hW
  refine T.out.mono ?_
  rintro e w1 ⟨v, rfl, hn, B1⟩
  obtain ⟨sg, sv, D, rfl, oD, cD, vD⟩ := hn
  obtain ⟨p1, c1, rfl, -, -⟩ := oD.arg
  have y1 := HH.out.2.1.below B1
  have g0 := y1.c0
  have g1 := y1.c1
  have f0 := y1.f0
  have f1 := y1.f1
  have k7 := y1.first (.bool sg)
  have k6 := (y1.store (.bool sg) (.slice p1 D.length c1)).2
  have HN := Lib.hid (And.intro oD (And.intro cD (And.intro vD B1)))
  clear oD cD vD B1 y1
  go_wp2_with fail
  refine bodyPost_ret (v := .agg #[.bool sg, .slice p1 D.length c1]) (by simp [results, Tryd.results38, go_sem, k6, k7]) rfl ⟨_, rfl, ?_, ?_⟩
  · obtain ⟨oD, cD, vD, B1⟩ := HN.out
    have hS := HH.out.2.2
    have hn4 : ∀ e, Value.ownBlock (.slice p1 D.length c1) = some e → e ≠ w.heap.size + 1 := fun e he h => by have := (World.ownsRow.lt oD _ he).1; omega
    exact ⟨sg, _, D, rfl, ((oD.other (a := ⟨w.heap.size + 1, 0, none⟩) _ (fun h => hn4 _ h rfl)).other (a := ⟨w.heap.size + 1, 1, none⟩) _ (fun h => hn4 _ h rfl)).base (by omega), cD, vD⟩
  · have h2 := HH.out.1.trans (HN.out.2.2.2.mono HH.out.1.size)
    exact (h2.setCell (p := ⟨w.heap.size + 1, 0, none⟩) (by show w.heap.size ≤ w.heap.size + 1; omega) _).setCell (p := ⟨w.heap.size + 1, 1, none⟩) (by show w.heap.size ≤ w.heap.size + 1; omega) _
theorem can_lit {s : Bool} {l : List Int} (h : (∀ d, d ∈ l → 0 ≤ d ∧ d < 65536) ∧ l.getLast? ≠ some 0) (h0 : l ≠ []) : Bg.Can 65536 s l := ⟨h.1, h.2, fun e => absurd e h0⟩
theorem txt_pos {n : Nat} {t : List UInt8} (ht : t.length = n + 1) (hd : ∀ b, b ∈ t → okDig (b.toNat : Int) = true) (hh : n = 0 ∨ ∃ b r, t = b :: r ∧ b.toNat ≠ 48) {x : Int} (hx : decI t = x) : txt x = t := by
  have h := decI_nonneg hd
  unfold txt
  rw [if_neg (by omega), ← hx]
  exact dec_back n t ht hd hh
theorem txt_neg {n : Nat} {t : List UInt8} (ht : t.length = n + 1) (hd : ∀ b, b ∈ t → okDig (b.toNat : Int) = true) (hh : ∃ b r, t = b :: r ∧ b.toNat ≠ 48) {x : Int} (hx : decI t = -x) : txt x = 45 :: t := by
  have h := decI_pos (n + 1) t ht hd hh
  unfold txt
  rw [if_pos (by omega), ← hx]
  congr 1
  exact dec_back n t ht hd (Or.inr hh)
theorem txt_1 : txt (-65537) = [45, 54, 53, 53, 51, 55] := txt_neg (n := 4) rfl (by decide) ⟨54, _, rfl, by decide⟩ (by decide)
theorem txt_2 : txt 4294967295 = [52, 50, 57, 52, 57, 54, 55, 50, 57, 53] := txt_pos (n := 9) rfl (by decide) (Or.inr ⟨52, _, rfl, by decide⟩) (by decide)
end Go.Proofs.YtihgefllmkicaaaDoor
