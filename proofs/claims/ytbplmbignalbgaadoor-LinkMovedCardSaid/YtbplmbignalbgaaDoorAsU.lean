/- Laws: a word, or so many words 0, behind a row with room. What an item's words are. Conditions: the row is the call's own. -/
import Derived.Test.YtbplmbignalbgaaDoorAsT
import Derived.Deep.RegionHeldLaw
namespace Go.Proofs.YtbplmbignalbgaaDoor
open Go.RowKit Asm
set_option linter.unusedVariables false
set_option linter.unusedSimpArgs false

theorem toList_zeroW (k : Nat) : (Builtin.zeroCells #[Value.int .u32 0] k).toList = byW (List.replicate k 0) := by
  unfold byW
  rw [List.map_replicate]
  apply List.ext_getElem?
  intro j
  by_cases hj : j < k
  · simp [Builtin.zeroCells, hj, Nat.mod_one]
  · simp [Builtin.zeroCells, hj]
theorem run_append_zeros {w : World} {B O len cap k : Nat} {xs : List Int} (h : Words w B O len cap xs) (hk : k < 4294967296) (hroom : len + k ≤ cap) :
    ∃ w', (Builtin.append_ #[27, 38] 27 #[.slice (some ⟨O, 0, none⟩) len cap, .int .u32 k]).run Tryd.prog w = .ok (.slice (some ⟨O, 0, none⟩) (len + k) cap) w' ∧ Words w' B O (len + k) cap (xs ++ List.replicate k 0) ∧ w.grownBy w' (some O) := by
  obtain ⟨i, hi, hz, hs, hb⟩ := infoW_of
  have hw : IntKind.i64.wrap (k : Int) = k := by rw [IntKind.wrap_i64]; omega
  have hlen : (byW (xs ++ List.replicate k 0)).length = (len + k) * 1 := by rw [byW_len, List.length_append, h.len, List.length_replicate, Nat.mul_one]
  rcases h.2 with ⟨h0, _⟩ | ⟨g', cap', cur, hv, hbg, hg, hnc, hcm, hcs, htake⟩
  · cases h0
  · cases hv
    rw [Nat.mul_one] at hcs htake
    have hl2 : (byW (List.replicate k 0)).length = k := by rw [byW_len, List.length_replicate]
    have hst := run_storeCells_at Tryd.prog O len 38 (byW (List.replicate k 0)) 0 cur w hg (by rw [hl2]; omega) (one_byW _)
    simp only [Nat.add_zero] at hst
    have hneg : ¬ ((k : Int) < 0) := by omega
    have h48 : ¬ (281474976710656 < (k : Int) * (i.bytes : Int)) := by rw [hb]; omega
    have hrun : (Builtin.append_ #[27, 38] 27 #[.slice (some ⟨O, 0, none⟩) len cap, .int .u32 k]).run Tryd.prog w = .ok (.slice (some ⟨O, 0, none⟩) (len + k) cap) (w.setRow O (cur.toList.take len ++ byW (List.replicate k 0) ++ cur.toList.drop (len + (byW (List.replicate k 0)).length)).toArray) := by
      by_cases hk0 : k = 0
      · subst hk0
        have h48' : ¬ (281474976710656 < (0 : Int) * (i.bytes : Int)) := by rw [hb]; omega
        have e : List.replicate 0 (0 : Int) = [] := rfl
        rw [e] at hst
        have e2 : byW [] = [] := rfl
        rw [e2] at hst
        have hw0 : IntKind.i64.wrap 0 = 0 := by rw [IntKind.wrap_i64]; rfl
        simp [Builtin.append_, run_underlying Tryd.underlying27, run_underlying Tryd.underlying38, sizeOf, typeInfo, zeroValue, hi, hz, hs, asInt, asIntOf, hw0, hnc, e2, hst, Addr.add_lit]
      · have hns : ¬ (k * i.size = 0) := by rw [hs]; omega
        have hzz := toList_zeroW k
        simp [Builtin.append_, run_underlying Tryd.underlying27, run_underlying Tryd.underlying38, sizeOf, typeInfo, zeroValue, hi, hz, hs, asInt, asIntOf, hw, hneg, h48, hk0, hroom, Addr.add_lit]
        rw [show (Value.int .u32 0).cells = #[Value.int .u32 0] from rfl, hzz, hst]
        simp
    refine ⟨_, hrun, ⟨hlen, .inr ⟨O, cap, _, rfl, hbg, setRow_heap w O cur _ 38 _ hg, hroom, hcm, ?_, ?_⟩⟩, ⟨rfl, rfl, rfl, by simp, fun q _ hq => setRow_other w O q _ (fun e => hq (by simp [e]))⟩⟩
    · simp only [List.size_toArray, List.length_append, List.length_take, List.length_drop, Array.length_toList, hl2]
      omega
    · rw [htake, ← byW_app, ← hlen]
      exact List.take_left
/-- As steps of a region that draws. -/
theorem step_words {ops : Array Oper} {o : Oper} {a : Act} {w : World} {K : Act → World → Prop} {Q : Exit → Act → World → Prop} {E : Prop} (hgd : o.guard = none) (s x : Operand)
    (ho : o.op = .call { callee := .builtin .append, args := #[s, x], argTypes := #[27, 27] }) (B O len cap : Nat) (xs : List Int) (hs : a.eval s = .slice (some ⟨O, 0, none⟩) len cap) (hown : Words w B O len cap xs)
    (ad : Addr) (c : Nat) (v : Int) (hx : a.eval x = .slice (some ad) 1 c) (hnew : ∀ j u, [Value.int .u32 v][j]? = some u → w.cell? (ad.add j) = some u) (hroom : len + 1 ≤ cap)
    (h : ∀ w', Words w' B O (len + 1) cap (xs ++ [v]) → w.grownBy w' (some O) → K (a.put o.dst (.slice (some ⟨O, 0, none⟩) (len + 1) cap)) w') :
    if Region.wanted o (yielded ops a.tmps) = true then Oper.wp Tryd.prog o a w K Q else E := by
  have hw : Region.wanted o (yielded ops a.tmps) = true := by simp [Region.wanted, hgd]
  rw [if_pos hw]
  obtain ⟨i, hi, hz, hsz, hb⟩ := infoW_of
  refine wp_append_own_spare w s x 27 ho B 38 i 1 Tryd.underlying27 hi hsz O len cap (byW xs) hs hown ad 1 c [.int .u32 v] hx rfl hnew (one_byW [v]) hroom ?_
  intro w' h1 h2
  refine h w' ?_ h2
  unfold Words
  rw [byW_app]
  exact h1
theorem wpList_zeros {w : World} {ops : Array Oper} {rest : List Oper} {o : Oper} {a : Act} {Q : Exit → Act → World → Prop} (hgd : o.guard = none) (s x : Operand)
    (ho : o.op = .call { callee := .builtin .append, args := #[s, x], argTypes := #[27, 38] }) (hty : o.type = 27) (B O len cap k : Nat) (xs : List Int) (hs : a.eval s = .slice (some ⟨O, 0, none⟩) len cap) (hown : Words w B O len cap xs)
    (hx : a.eval x = .int .u32 k) (hk : k < 4294967296) (hroom : len + k ≤ cap)
    (h : ∀ w', Words w' B O (len + k) cap (xs ++ List.replicate k 0) → w.grownBy w' (some O) → wpList Tryd.prog ops Q rest (a.put o.dst (.slice (some ⟨O, 0, none⟩) (len + k) cap)) w') : wpList Tryd.prog ops Q (o :: rest) a w := by
  obtain ⟨w', hr, h1, h2⟩ := run_append_zeros hown hk hroom
  exact Lib.wpList_append_run w hgd s x 27 38 ho _ _ hs hx _ w' (by rw [hty]; exact hr) (h w' h1 h2)

def taddr (X : Nat → It) (n : Nat) (base : Int) (f : Nat → Nat) (i : Nat) : Int := ad X base f (tgt X n i)
/-- The words of item i. -/
def iw (X : Nat → It) (n : Nat) (base : Int) (f : Nat → Nat) (i : Nat) : List Int :=
  if (X i).kind = 1 then [insW ⟨(X i).op, (X i).d, (X i).a, (X i).b, (X i).imm⟩]
  else if (X i).kind = 3 then (branchL X n base f i).map insW
  else if (X i).kind = 4 then (jumpL X n base f i (X i).d (f i)).map insW
  else if (X i).kind = 5 then (loadL (X i).d ((taddr X n base f i + (X i).word) % 4294967296)).map insW
  else if (X i).kind = 6 then [(X i).word]
  else if (X i).kind = 7 then [(4 * taddr X n base f i + (X i).word) % 4294967296]
  else if (X i).kind = 8 then List.replicate (X i).word.toNat 0
  else []
def wordsL (X : Nat → It) (n : Nat) (base : Int) (f : Nat → Nat) : Nat → List Int
  | 0 => []
  | k + 1 => wordsL X n base f k ++ iw X n base f k
theorem branchL_len (X : Nat → It) (n : Nat) (base : Int) (f : Nat → Nat) (i : Nat) (h : 1 ≤ f i ∧ f i ≤ 3) : (branchL X n base f i).length = if f i = 1 then 1 else if f i = 2 then 2 else 4 := by
  unfold branchL
  by_cases h1 : f i = 1
  · rw [if_pos h1, if_pos h1]; rfl
  · rw [if_neg h1, if_neg h1, List.length_cons, jumpL_len]
    by_cases h2 : f i = 2
    · rw [if_pos h2, if_pos (by omega)]
    · rw [if_neg h2, if_neg (by omega)]
theorem iw_len {X : Nat → It} {n : Nat} {base : Int} {f : Nat → Nat} {i : Nat} (hv : valid X n f) (hi : i < n) (hw : 0 ≤ (X i).word) (hk : 1 ≤ (X i).kind ∧ (X i).kind ≤ 8) : ((iw X n base f i).length : Int) = isz (X i) (f i) := by
  have hvi := hv i hi
  unfold iw isz
  by_cases h1 : (X i).kind = 1
  · simp [h1]
  by_cases h2 : (X i).kind = 2
  · simp [h2]
  by_cases h3 : (X i).kind = 3
  · rw [if_pos h3] at hvi
    have := branchL_len X n base f i hvi
    rw [if_neg h1, if_pos h3, if_neg h2, if_pos h3, List.length_map, this]
    (repeat' split) <;> rfl
  by_cases h4 : (X i).kind = 4
  · rw [if_neg h1, if_neg h3, if_pos h4, if_neg h2, if_neg h3, if_pos h4, List.length_map, jumpL_len]
    split <;> rfl
  by_cases h5 : (X i).kind = 5
  · simp [h5, loadL]
  by_cases h6 : (X i).kind = 6
  · simp [h6]
  by_cases h7 : (X i).kind = 7
  · simp [h7]
  · have h8 : (X i).kind = 8 := by omega
    simp [h8]
    omega
theorem wordsL_len {X : Nat → It} {n : Nat} {base : Int} {f : Nat → Nat} (hv : valid X n f) (hw : ∀ i, i < n → 0 ≤ (X i).word) (hk : ∀ i, i < n → 1 ≤ (X i).kind ∧ (X i).kind ≤ 8) : ∀ k, k ≤ n → ((wordsL X n base f k).length : Int) = ad X base f k - base
  | 0, _ => by show (0 : Int) = base - base; omega
  | k + 1, h => by
    have h1 := wordsL_len (base := base) hv hw hk k (by omega)
    have h2 := iw_len (base := base) hv (show k < n by omega) (hw k (by omega)) (hk k (by omega))
    show ((wordsL X n base f k ++ iw X n base f k).length : Int) = ad X base f k + isz (X k) (f k) - base
    rw [List.length_append]
    omega
end Go.Proofs.YtbplmbignalbgaaDoor
