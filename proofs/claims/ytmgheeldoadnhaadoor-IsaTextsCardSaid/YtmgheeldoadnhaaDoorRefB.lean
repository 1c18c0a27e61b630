/- Contracts: the document's names. Conditions: none. -/
import Derived.Test.YtmgheeldoadnhaaDoorRefA
namespace Go.Proofs.YtmgheeldoadnhaaDoor
open Go.RowKit

theorem allB_cat : (⟨(allL.take 152).toArray⟩ : ByteArray) ++ (⟨#[32]⟩ : ByteArray) = allB := by
  unfold allB
  apply ByteArray.ext
  rw [ByteArray.data_append]
  rfl
theorem allB_size : allB.size = 153 := by
  show allL.toArray.size = 153
  rfl
theorem extract_one (s : ByteArray) (k : Nat) (h : k < s.size) : (s.extract k (k + 1)) = ⟨#[s[k]]⟩ := by
  apply ByteArray.ext
  apply Array.ext'
  rw [Lib.extract_data]
  have e : k + 1 - k = 1 := by omega
  rw [e]
  have hk : k < s.data.toList.length := by rw [Array.length_toList]; exact h
  rw [List.drop_eq_getElem_cons hk]
  rfl
theorem drop_byte (s : ByteArray) (k : Nat) (h : k < s.size) : s.data.toList.drop k = s[k] :: s.data.toList.drop (k + 1) := by
  have hk : k < s.data.toList.length := by rw [Array.length_toList]; exact h
  rw [List.drop_eq_getElem_cons hk]
  rfl

theorem word_cat (word : List UInt8) (c : UInt8) : (⟨word.toArray⟩ : ByteArray) ++ (⟨#[c]⟩ : ByteArray) = ⟨(word ++ [c]).toArray⟩ := by
  apply ByteArray.ext
  rw [ByteArray.data_append]
  simp
theorem byte32 (c : UInt8) : ((c.toNat : Int) = 32) ↔ c = 32 := by
  constructor
  · intro h
    apply UInt8.toNat_inj.1
    have : c.toNat = 32 := by omega
    exact this
  · rintro rfl; rfl

set_option maxRecDepth 100000 in
set_option maxHeartbeats 1000000 in
theorem rname_any (op : Int) (w : World) :
    Calls Tryd.prog 14 #[.int .i64 op] w fun e w' => e = .returned (.string (nameOf op)) ∧ w = w' := by
  go_enter Tryd.func14, Tryd.ntmps14
  go_wp2_with (go_at_call 30; refine (names_any _).mono ?_; rintro e w' ⟨rfl, rfl⟩)
  rw [allB_cat]
  obtain ⟨s, hs⟩ : ∃ s, s = allB := ⟨_, rfl⟩
  have hz : s.size ≤ 153 := by rw [hs, allB_size]; exact Nat.le_refl _
  have HS : Hid (scan op allL 1 [] = scan op (s.data.toList.drop 0) 1 []) := by unfold Hid; rw [hs]; rfl
  rw [← hs]
  clear hs
  go_loop [4, 5, 6] (fun n v i => ∃ (k m : Nat) (word : List UInt8), k ≤ s.size ∧ m ≤ k + 1 ∧ word.length ≤ k ∧ i = .int .i64 k ∧ n = .int .i64 m ∧ v = .string ⟨word.toArray⟩ ∧ Hid (scan op allL 1 [] = scan op (s.data.toList.drop k) m word)) (fun _ _ i => s.size - (intOf i).toNat)
  case atStart => exact ⟨0, 1, [], Nat.zero_le _, by decide, Nat.le_refl _, rfl, rfl, rfl, HS⟩
  case round =>
    obtain ⟨k, m, word, hk, hm, hwl, rfl, rfl, rfl, hN⟩ := hrel
    clear HS
    by_cases hlt : k < s.size
    · have hdb := drop_byte s k hlt
      have hex := extract_one s k hlt
      have HD := Lib.hid (And.intro hdb hex)
      clear hdb hex
      go_wp2
      · have ht : ((s[k].toNat : Int) != 32) = true := by assumption
        have hc : s[k] ≠ 32 := fun e => by rw [(byte32 _).2 e] at ht; simp at ht
        go_round
        case rel =>
          refine ⟨k + 1, m, word ++ [s[k]], by omega, by omega, by simp; omega, by go_num, rfl, ?_, ?_⟩
          · rw [HD.out.2, word_cat]
          · have hn := hN.out
            unfold Hid
            rw [HD.out.1, scan, if_neg hc] at hn
            exact hn
        case measure => simp [intOf]; omega
      · have ht : ((s[k].toNat : Int) != 32) = false := by assumption
        have hm2 : ((m : Int) == op) = true := by assumption
        have hc : s[k] = 32 := (byte32 _).1 (by simpa using ht)
        go_ret
        refine ⟨?_, rfl⟩
        have hn := hN.out
        rw [HD.out.1, scan, if_pos hc, if_pos (by simpa using hm2)] at hn
        rw [← scan_name, hn]
        rfl
      · have ht : ((s[k].toNat : Int) != 32) = false := by assumption
        have hm2 : ((m : Int) == op) = false := by assumption
        have hc : s[k] = 32 := (byte32 _).1 (by simpa using ht)
        go_round
        case rel =>
          refine ⟨k + 1, m + 1, [], by omega, by omega, by simp, by go_num, by go_num, rfl, ?_⟩
          have hn := hN.out
          unfold Hid
          rw [HD.out.1, scan, if_pos hc, if_neg (by simpa using hm2)] at hn
          exact hn
        case measure => simp [intOf]; omega
    · go_wp2
      go_ret
      refine ⟨?_, rfl⟩
      have hn := hN.out
      rw [List.drop_of_length_le (by rw [Array.length_toList]; show s.size ≤ k; omega), scan] at hn
      rw [← scan_name, hn]
      rfl
end Go.Proofs.YtmgheeldoadnhaaDoor
