/- Contracts: the document's words of a text. Conditions: the text is short. -/
import Derived.Test.YtmgheeldoadnhaaDoorRefB
import Derived.Test.YtmgheeldoadnhaaDoorSpecJ
import Derived.Laws.OwnMore
namespace Go.Proofs.YtmgheeldoadnhaaDoor
open Go.RowKit

def strL (l : List (List UInt8)) : List Value := l.map fun x => .string ⟨x.toArray⟩
theorem strL_len (l : List (List UInt8)) : (strL l).length = l.length := by unfold strL; simp
theorem strL_snoc (l : List (List UInt8)) (x : List UInt8) : strL (l ++ [x]) = strL l ++ [.string ⟨x.toArray⟩] := by unfold strL; simp
theorem rinfo9 : (Tryd.prog.info? 9).map (fun i => (i.zero, i.size, i.bytes)) = some (some (.string ⟨#[]⟩), 1, 16) := by kernel_rfl
theorem runder64 : Tryd.prog.underlying 64 = some (.slice 9) := by kernel_rfl
theorem rinfo9_of : ∃ i, Tryd.prog.info? 9 = some i ∧ i.zero = some (.string ⟨#[]⟩) ∧ i.size = 1 ∧ i.bytes = 16 := by
  have h := rinfo9
  cases hq : Tryd.prog.info? 9 with
  | none => rw [hq] at h; simp at h
  | some i => rw [hq] at h; simp at h; exact ⟨i, rfl, h.1, h.2.1, h.2.2⟩
/-- The row of the words so far. -/
def SRow (base : Nat) (v : Value) (l : List (List UInt8)) (w : World) : Prop := w.ownsRow base 9 1 v l.length (strL l)
theorem word_cat1 (word : List UInt8) (c : UInt8) : (⟨word.toArray⟩ : ByteArray) ++ (⟨#[c]⟩ : ByteArray) = ⟨(word ++ [c]).toArray⟩ := word_cat word c

set_option maxRecDepth 100000 in
set_option maxHeartbeats 2000000 in
theorem rwords_any (s : ByteArray) (w : World) (hs : s.size ≤ 60) :
    Calls Tryd.prog 50 #[.string s] w fun e w' => ∃ v, e = .returned v ∧ SRow w.heap.size v (splitL s.data.toList []) w' ∧ Below w.heap.size w w' := by
  obtain ⟨i0, hi, hz0, hz1, hz2⟩ := rinfo9_of
  obtain ⟨B, hB⟩ : ∃ B, B = w.heap.size := ⟨_, rfl⟩
  have HB := Lib.hid hB
  rw [← hB]
  clear hB
  obtain ⟨F, hF⟩ : ∃ F, F = splitL s.data.toList [] := ⟨_, rfl⟩
  have HF : Hid (F = [] ++ splitL (s.data.toList.drop 0) []) := by unfold Hid; rw [hF]; rfl
  rw [← hF]
  clear hF
  go_enter Tryd.func50, Tryd.ntmps50
  go_wp2_with fail
  go_loopw [3, 4, 5] (fun u v i wr => ∃ (k : Nat) (word : List UInt8) (done : List (List UInt8)), k ≤ s.size ∧ word.length ≤ k ∧ done.length ≤ k ∧ v = .string ⟨word.toArray⟩ ∧ i = .int .i64 k ∧
      SRow B u done wr ∧ Below B w wr ∧ Hid (F = done ++ splitL (s.data.toList.drop k) word))
    (fun _ _ i _ => s.size - (intOf i).toNat)
  case atStart => exact ⟨0, [], [], Nat.zero_le _, Nat.le_refl _, Nat.le_refl _, rfl, rfl, World.ownsRow_nil _ _ _ _, by rw [HB.out]; exact Below.refl _ _, HF⟩
  case round =>
    obtain ⟨k, word, done, hk, hw, hd, rfl, rfl, hown, hnx, HN⟩ := hrel
    have HO := Lib.hid (And.intro hown hnx)
    clear hown hnx HF
    by_cases hlt : k < s.size
    · have hdb := drop_byte s k hlt
      have hex := extract_one s k hlt
      have HD := Lib.hid (And.intro hdb hex)
      clear hdb hex
      go_wp2_with (first
        | (at_builtin; refine wpList_append_own _ rfl _ _ 64 rfl B 9 i0 (.string ⟨#[]⟩) 1 16 runder64 hi hz0 hz1 hz2 rfl (by decide) _ _ _ rfl (HO.out.1.alloc _) ⟨wr.heap.size, 0, none⟩ 1 1 [.string ⟨word.toArray⟩] rfl rfl ?c1 ?c2 ?c3 ?c4 ?c5 ?_)
        | fail)
      case c1 =>
        intro j u hj
        match j, hj with
        | 0, hj => simp at hj; subst hj; simp [Addr.add]
      case c2 => intro u hu; simp at hu; subst hu; rfl
      case c3 => unfold maxLen; omega
      case c4 => omega
      case c5 => have := HO.out.2.size; simp; have := HB.out; omega
      · intro v' w1 hown' hgrow _
        have ht : ((s[k].toNat : Int) == 32) = true := by assumption
        have hc : s[k] = 32 := (byte32 _).1 (by simpa using ht)
        have hs := HO.out.2.size
        have hb := HB.out
        have hnx' : Below B w w1 := (HO.out.2.alloc (by omega) (.cells #[.string ⟨word.toArray⟩] 9)).grown hgrow (by simp; omega) (fun j hj => (World.ownsRow.lt HO.out.1 j hj).1)
        have H1 := Lib.hid (And.intro hown' (And.intro hnx' hc))
        clear hown' hnx' hgrow hs hb hc ht
        go_wp2_with fail
        go_roundw
        case rel =>
          refine ⟨k + 1, [], done ++ [word], by omega, by simp, by simp; omega, rfl, by go_num, ?_, H1.out.2.1, ?_⟩
          · have := H1.out.1
            unfold SRow
            rw [strL_snoc, List.length_append]
            exact this
          · have hn := HN.out
            unfold Hid
            rw [HD.out.1, H1.out.2.2, splitL, if_pos rfl] at hn
            rw [hn, List.append_assoc]
            rfl
        case measure => simp [intOf]; omega
      · have ht : ((s[k].toNat : Int) == 32) = false := by assumption
        have hc : s[k] ≠ 32 := fun e => by rw [(byte32 _).2 e] at ht; simp at ht
        have H1 := Lib.hid hc
        clear hc ht
        go_roundw
        case rel =>
          refine ⟨k + 1, word ++ [s[k]], done, by omega, by simp; omega, by omega, ?_, by go_num, HO.out.1, HO.out.2, ?_⟩
          · rw [HD.out.2, word_cat]
          · have hn := HN.out
            unfold Hid
            rw [HD.out.1, splitL, if_neg H1.out] at hn
            exact hn
        case measure => simp [intOf]; omega
    · have hkm : k = s.size := by omega
      subst hkm
      go_wp2_with (first
        | (at_builtin; refine wpList_append_own _ rfl _ _ 64 rfl B 9 i0 (.string ⟨#[]⟩) 1 16 runder64 hi hz0 hz1 hz2 rfl (by decide) _ _ _ rfl (HO.out.1.alloc _) ⟨wr.heap.size, 0, none⟩ 1 1 [.string ⟨word.toArray⟩] rfl rfl ?d1 ?d2 ?d3 ?d4 ?d5 ?_)
        | fail)
      case d1 =>
        intro j u hj
        match j, hj with
        | 0, hj => simp at hj; subst hj; simp [Addr.add]
      case d2 => intro u hu; simp at hu; subst hu; rfl
      case d3 => unfold maxLen; omega
      case d4 => omega
      case d5 => have := HO.out.2.size; simp; have := HB.out; omega
      · intro v' w1 hown' hgrow _
        have hs := HO.out.2.size
        have hb := HB.out
        have hnx' : Below B w w1 := (HO.out.2.alloc (by omega) (.cells #[.string ⟨word.toArray⟩] 9)).grown hgrow (by simp; omega) (fun j hj => (World.ownsRow.lt HO.out.1 j hj).1)
        have H1 := Lib.hid (And.intro hown' hnx')
        clear hown' hnx' hgrow hs hb
        go_wp2_with fail
        go_ret
        refine ⟨_, rfl, ?_, H1.out.2⟩
        have := H1.out.1
        rw [HN.out, List.drop_of_length_le (by rw [Array.length_toList]; exact Nat.le_refl _), splitL]
        unfold SRow
        rw [strL_snoc, List.length_append]
        exact this
end Go.Proofs.YtmgheeldoadnhaaDoor
