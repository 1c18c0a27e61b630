/- Contracts: the document's answer for the words of all items. Conditions: the items lie as told. -/
import Derived.Test.YtbplmbignalbgaaDoorAsAd
import Derived.Test.YtbplmbignalbgaaDoorAsX
import Derived.Deep.RegionHeldLaw
import Derived.Deep.AppendLies
namespace Go.Proofs.YtbplmbignalbgaaDoor
open Go.RowKit Asm
set_option linter.unusedVariables false
set_option linter.unusedSimpArgs false

theorem grown_same (w : World) (row : Option Nat) : w.grownBy w row := ⟨rfl, rfl, rfl, Nat.le_refl _, fun _ _ _ => rfl⟩
theorem own_apart {w : World} {B B' t t' m m' n n' : Nat} {v v' : Value} {xs ys : List Value} (h : w.ownsRow B t m v n xs) (k : w.ownsRow B' t' m' v' n' ys) (hne : t ≠ t') : v.ownBlock = none ∨ v.ownBlock ≠ v'.ownBlock := by
  rcases h.2 with ⟨rfl, -⟩ | ⟨g, cap, cur, rfl, -, hg, -⟩
  · exact Or.inl rfl
  · rcases k.2 with ⟨rfl, -⟩ | ⟨g', cap', cur', rfl, -, hg', -⟩
    · exact Or.inr (by simp [Value.ownBlock])
    · refine Or.inr (fun e => ?_)
      have e' : g = g' := by simpa [Value.ownBlock] using e
      exact ne_kind hg hg' hne e'
/-- A row of words, appended to an own row of words. -/
theorem append_words {w : World} {B B2 len m : Nat} {v sv : Value} {xs ys : List Int} (h : w.ownsRow B 38 1 v len (byW xs)) (k : w.ownsRow B2 38 1 sv m (byW ys)) (hm : len + m ≤ 1000000000) (hB : B ≤ w.heap.size) :
    ∃ v' w', (Builtin.append_ #[27, 27] 27 #[v, sv]).run Tryd.prog w = .ok v' w' ∧ w'.ownsRow B 38 1 v' (len + m) (byW (xs ++ ys)) ∧ w.grownBy w' v.ownBlock := by
  obtain ⟨i0, hi, hz0, hz1, hz2⟩ := infoW_of
  rcases k.2 with ⟨rfl, h0⟩ | ⟨g, cap, cur, rfl, -, hg, hcap, hmax, hcs, htake⟩
  · have hm0 : m = 0 := h0
    subst hm0
    have hy : ys = [] := by
      have := k.1
      rw [byW_len, Nat.zero_mul] at this
      exact List.length_eq_zero_iff.1 this
    subst hy
    refine ⟨v, w, ?_, by rw [List.append_nil]; exact h, grown_same _ _⟩
    rcases h.2 with ⟨rfl, hl0⟩ | ⟨g, cap, cur, rfl, -, hg, hcap, hmax, hcs, htake⟩
    · have hl : len = 0 := hl0
      subst hl
      simp [Builtin.append_, run_underlying Tryd.underlying27, sizeOf, typeInfo, hi, Builtin.lenOf, Builtin.firstCells, storeCells]
    · simp [Builtin.append_, run_underlying Tryd.underlying27, sizeOf, typeInfo, hi, Builtin.lenOf, Builtin.firstCells, storeCells, hcap]
  · obtain ⟨v', w', hr, h1, h2, -⟩ := run_append_own (P := Tryd.prog) w B 27 27 38 i0 (.int .u32 0) 1 4 Tryd.underlying27 hi hz0 hz1 hz2 rfl (by decide) v len (byW xs) h ⟨g, 0, none⟩ m cap (byW ys) k.1 (fun j u hu => by
      have hj : j < (byW ys).length := (List.getElem?_eq_some_iff.1 hu).1
      have e : (⟨g, 0, none⟩ : Addr).add j = ⟨g, j, none⟩ := by unfold Addr.add; split <;> simp_all
      rw [e, World.ownsRow.cellAt k j (by rw [← k.1]; exact hj), hu]) (one_byW ys) (by unfold maxLen; omega) (by omega) hB
    exact ⟨v', w', hr, by rw [byW_app]; exact h1, h2⟩
set_option maxRecDepth 100000 in
/-- As a step of a region that draws. -/
theorem step_run {ops : Array Oper} {o : Oper} {a : Act} {w w' : World} {K : Act → World → Prop} {Q : Exit → Act → World → Prop} {E : Prop} (hgd : o.guard = none) (s x : Operand)
    (ho : o.op = .call { callee := .builtin .append, args := #[s, x], argTypes := #[27, 27] }) {v u v' : Value} (hs : a.eval s = v) (hx : a.eval x = u)
    (hr : (Builtin.append_ #[27, 27] o.type #[v, u]).run Tryd.prog w = .ok v' w') (h : K (a.put o.dst v') w') :
    if Region.wanted o (yielded ops a.tmps) = true then Oper.wp Tryd.prog o a w K Q else E := by
  have hw : Region.wanted o (yielded ops a.tmps) = true := by simp [Region.wanted, hgd]
  rw [if_pos hw]
  unfold Oper.wp execOp
  simp only [ho, resolve, invoke, builtin, Sem.run_bind, Sem.run_pure, Result.andThen_ok, List.map_toArray, List.map_cons, List.map_nil, hs, hx, hr]
  exact h
/-- The words of an item of n, as the document tells them. -/
theorem rWords_at {X : Nat → It} {n : Nat} {base : Int} {f : Nat → Nat} {i : Nat} (hi : i < n) (hv : valid X n f) (hk : 1 ≤ (X i).kind ∧ (X i).kind ≤ 8) (hw : 0 ≤ (X i).word ∧ (X i).word < 4294967296) {a T : Int} (ha : a = ad X base f i) (hT : named (X i) = true → T = ad X base f (tgt X n i)) (h1 : 0 ≤ T ∧ T ≤ 67108864) (h2 : 0 ≤ a ∧ a ≤ 67108864) (w : World) :
    Calls Tryd.prog 31 #[iv (X i), .int .i64 (f i), .int .i64 a, .int .i64 T] w fun e w' => ∃ sv, e = .returned sv ∧ w'.ownsRow w.heap.size 38 1 sv (iw X n base f i).length (byW (iw X n base f i)) ∧ Below w.heap.size w w' := by
  have hvi := hv i hi
  have hTm : T % 4294967296 = T := by omega
  have e0 : ad X base f (i + 1) = a + isz (X i) (f i) := by rw [ha]; rfl
  by_cases k1 : (X i).kind = 1
  · have e : iw X n base f i = [insW ⟨(X i).op, (X i).d, (X i).a, (X i).b, (X i).imm⟩] := by unfold iw; rw [if_pos k1]
    rw [e]
    exact rWords_k1 w _ a T k1 h1 h2
  by_cases k2 : (X i).kind = 2
  · have e : iw X n base f i = [] := by unfold iw; rw [k2]; rfl
    rw [e]
    exact rWords_k2 w _ a T k2 h1 h2
  by_cases k3 : (X i).kind = 3
  · have ht := hT (by unfold named; simp [k3])
    rw [if_pos k3] at hvi
    have hd : dist X n base f i = T - a - isz (X i) (f i) := by unfold dist; rw [← ht, e0]; omega
    rcases (show f i = 1 ∨ f i = 2 ∨ f i = 3 by omega) with hf | hf | hf
    · have hz : isz (X i) (f i) = 1 := by unfold isz; rw [k3, hf]; rfl
      have e : iw X n base f i = [insW ⟨(X i).op, 0, (X i).a, (X i).b, T - a - 1⟩] := by
        unfold iw branchL
        rw [if_neg (by omega), if_pos k3, if_pos hf, hd, hz]
        rfl
      rw [e, hf]
      exact rWords_k31 w a T k3 h1 h2
    · have hz : isz (X i) (f i) = 2 := by unfold isz; rw [k3, hf]; rfl
      have e : iw X n base f i = [insW ⟨turned (X i).op, 0, (X i).a, (X i).b, 1⟩, insW ⟨32, 0, 0, 0, T - a - 2⟩] := by
        unfold iw branchL jumpL
        rw [if_neg (by omega), if_pos k3, if_neg (by omega), if_pos (by omega), hd, hz]
        rfl
      rw [e, hf]
      exact rWords_k32 w a T k3 h1 h2
    · have e : iw X n base f i = [insW ⟨turned (X i).op, 0, (X i).a, (X i).b, 3⟩, insW ⟨23, 25, 0, 0, T / 65536⟩, insW ⟨17, 25, 25, 0, T % 65536⟩, insW ⟨33, 0, 25, 0, 0⟩] := by
        unfold iw branchL jumpL
        rw [if_neg (by omega), if_pos k3, if_neg (by omega), if_neg (by omega), ← ht, hTm]
        rfl
      rw [e, hf]
      exact rWords_k33 w a T k3 h1 h2
  by_cases k4 : (X i).kind = 4
  · have ht := hT (by unfold named; simp [k4])
    rw [if_neg k3, if_pos k4] at hvi
    have hd : dist X n base f i = T - a - isz (X i) (f i) := by unfold dist; rw [← ht, e0]; omega
    rcases (show f i = 1 ∨ f i = 2 by omega) with hf | hf
    · have hz : isz (X i) (f i) = 1 := by unfold isz; rw [k4, hf]; rfl
      have e : iw X n base f i = [insW ⟨32, (X i).d, 0, 0, T - a - 1⟩] := by
        unfold iw jumpL
        rw [if_neg (by omega), if_neg (by omega), if_pos k4, if_pos hf, hd, hz]
        rfl
      rw [e, hf]
      exact rWords_k41 w a T k4 h1 h2
    · have e : iw X n base f i = [insW ⟨23, 25, 0, 0, T / 65536⟩, insW ⟨17, 25, 25, 0, T % 65536⟩, insW ⟨33, (X i).d, 25, 0, 0⟩] := by
        unfold iw jumpL
        rw [if_neg (by omega), if_neg (by omega), if_pos k4, if_neg (by omega), ← ht, hTm]
        rfl
      rw [e, hf]
      exact rWords_k42 w a T k4 h1 h2
  by_cases k5 : (X i).kind = 5
  · have ht := hT (by unfold named; simp [k5])
    have e : iw X n base f i = [insW ⟨23, (X i).d, 0, 0, (T + (X i).word) % 4294967296 / 65536⟩, insW ⟨17, (X i).d, (X i).d, 0, (T + (X i).word) % 4294967296 % 65536⟩] := by
      unfold iw taddr
      rw [if_neg (by omega), if_neg (by omega), if_neg (by omega), if_pos k5, ← ht]
      rfl
    rw [e]
    exact rWords_k5 w _ a T k5 h1 h2 hw
  by_cases k6 : (X i).kind = 6
  · have e : iw X n base f i = [(X i).word] := by unfold iw; rw [k6]; rfl
    rw [e]
    exact rWords_k6 w _ a T k6 h1 h2
  by_cases k7 : (X i).kind = 7
  · have ht := hT (by unfold named; simp [k7])
    have e : iw X n base f i = [(4 * T + (X i).word) % 4294967296] := by
      unfold iw taddr
      rw [if_neg (by omega), if_neg (by omega), if_neg (by omega), if_neg (by omega), if_neg (by omega), if_pos k7, ← ht]
    rw [e]
    exact rWords_k7 w _ a T k7 h1 h2 hw
  · have k8 : (X i).kind = 8 := by omega
    have e : iw X n base f i = List.replicate (X i).word.toNat 0 := by unfold iw; rw [k8]; rfl
    rw [e]
    exact rWords_k8 w _ a T k8 h1 h2 hw
open Go.RowKit Asm
set_option linter.unusedVariables false
set_option linter.unusedSimpArgs false

def RAssembled (W w' : World) (X : Nat → It) (n : Nat) (base : Int) (e : Ending) : Prop :=
  (check X n base ≠ 0 ∧ e = .returned (.tuple #[.slice none 0 0, .slice none 0 0, .int .i64 (check X n base)])) ∨
  (check X n base = 0 ∧ ((∃ f, Under X n base f ∧ 67108864 < ad X base f n ∧ e = .returned (.tuple #[.slice none 0 0, .slice none 0 0, .int .i64 3])) ∨
    (∃ f v pv, Least X n base f ∧ ad X base f n ≤ 67108864 ∧ e = .returned (.tuple #[v, pv, .int .i64 0]) ∧ w'.ownsRow W.heap.size 38 1 v (wordsL X n base f n).length (byW (wordsL X n base f n)) ∧
      w'.ownsRow W.heap.size 47 2 pv (placesL X (ad X base f) n).length (rowP (placesL X (ad X base f) n)))))
theorem named_tgt {X : Nat → It} {n : Nat} {base : Int} (h : check X n base = 0) {i : Nat} (hi : i < n) (hn : named (X i) = true) : stI X (X i).lab n = (tgt X n i : Nat) ∧ tgt X n i < n :=
  ⟨stI_some (st_tgt h hi hn), tgt_lt hi⟩
theorem lay_cells {w2 : World} {p : Option Addr} {n c : Nat} {X : Nat → It} {f : Nat → Nat} {F cf A ca : Nat} {base : Int} {b off k : Nat} (h : Items w2 p n c X) (hf : Row w2 (.slice (some ⟨F, 0, none⟩) n cf) n (fun i => f i)) (ha : Row w2 (.slice (some ⟨A, 0, none⟩) (n + 1) ca) (n + 1) (ad X base f)) (hlt : k < n) (hp : p = some ⟨b, off, none⟩) :
    ∀ w', Below w2.heap.size w2 w' → w'.cell? ⟨b, off + k * 8, none⟩ = some (.int .i64 (X k).kind) ∧ w'.cell? ⟨b, off + k * 8 + 1, none⟩ = some (.int .i64 (X k).op) ∧ w'.cell? ⟨b, off + k * 8 + 2, none⟩ = some (.int .i64 (X k).d) ∧ w'.cell? ⟨b, off + k * 8 + 3, none⟩ = some (.int .i64 (X k).a) ∧ w'.cell? ⟨b, off + k * 8 + 4, none⟩ = some (.int .i64 (X k).b) ∧ w'.cell? ⟨b, off + k * 8 + 5, none⟩ = some (.int .i64 (X k).imm) ∧ w'.cell? ⟨b, off + k * 8 + 6, none⟩ = some (.string (X k).lab) ∧ w'.cell? ⟨b, off + k * 8 + 7, none⟩ = some (.int .u32 (X k).word) ∧ w'.cell? ⟨F, k, none⟩ = some (.int .i64 (f k)) ∧ w'.cell? ⟨A, k, none⟩ = some (.int .i64 (ad X base f k)) := by
  intro w' hbw
  obtain ⟨b2, off2, hp2, ks⟩ := (h.below hbw).at hlt
  rw [hp] at hp2
  cases hp2
  obtain ⟨a0, a1, a2, a3, a4, a5, a6, a7⟩ := ks
  exact ⟨a0, a1, a2, a3, a4, a5, a6, a7, (hf.below hbw).cell hlt, (ha.below hbw).cell (by omega)⟩
set_option maxRecDepth 100000 in
set_option maxHeartbeats 16000000 in
theorem rAssemble_at {w : World} {p : Option Addr} {n c : Nat} {X : Nat → It} (h : Items w p n c X) (hn : n ≤ 480) (base : Int) :
    Calls Tryd.prog 22 #[.slice p n c, .int .i64 base] w fun e w' => RAssembled w w' X n base e ∧ Below w.heap.size w w' := by
  have hfo := rForms_at h hn base
  have HI0 := Lib.hid h
  clear h
  obtain ⟨i0, hi, hz0, hz1, hz2⟩ := infoP_of
  go_enter Tryd.func22, Tryd.ntmps22
  go_wp2_with fail
  refine hfo.mono ?_
  rintro e w1 ⟨ha, hb⟩
  clear hfo
  have HB1 := Lib.hid hb
  clear hb
  rcases ha with ⟨hc, rfl⟩ | ⟨hc, ⟨f, hu, hlong, rfl⟩ | ⟨f, vf, hl, hle, rfl, hrow⟩⟩
  · as_aux_lemma =>
      obtain ⟨cv, hcv⟩ : ∃ cv, cv = check X n base := ⟨_, rfl⟩
      rw [← hcv] at hc ⊢
      have d0 : (cv != 0) = true := by simp [hc]
      have HC := Lib.hid (And.intro hcv hc)
      clear hcv hc
      go_wp2_with fail
      go_ret3
      exact ⟨Or.inl ⟨by rw [← HC.out.1]; exact HC.out.2, by rw [← HC.out.1]; rfl⟩, HB1.out⟩
  · as_aux_lemma =>
      have HC := Lib.hid (And.intro hc (And.intro hu hlong))
      clear hc hu hlong
      go_wp2_with fail
      go_ret3
      exact ⟨Or.inr ⟨HC.out.1, Or.inl ⟨f, HC.out.2.1, HC.out.2.2, rfl⟩⟩, HB1.out⟩
  · as_aux_lemma =>
      have hb0 := (check_parts hc).1
      have hRow : Row w1 vf n (fun i => f i) := ⟨⟨_, hrow⟩⟩
      have hat := rAt_at (HI0.out.below HB1.out) hRow hn hl.1.1 base hb0
      have HC := Lib.hid hc
      have HL := Lib.hid (And.intro hl hle)
      have HR := Lib.hid hRow
      clear hrow hRow hc hl hle
      go_wp2_with fail
      refine hat.mono ?_
      rintro e w2 ⟨va, rfl, hown, hb⟩
      clear hat
      obtain ⟨A, ca, rfl, -, -⟩ := World.ownsRow.form hown (Nat.succ_pos n)
      obtain ⟨pf, cf, rfl, hF⟩ := HR.out.shape
      have HA := Lib.hid (⟨⟨_, hown⟩⟩ : Row w2 (.slice (some ⟨A, 0, none⟩) (n + 1) ca) (n + 1) (ad X base f))
      have HF := Lib.hid (And.intro (HR.out.below hb) hF)
      have HI := Lib.hid ((HI0.out.below HB1.out).below hb)
      have HB2 := Lib.hid (HB1.out.trans (hb.mono HB1.out.size))
      have HV := Lib.hid HL.out.1.1.1
      have hbd : ∀ i, i ≤ n → 0 ≤ ad X base f i ∧ ad X base f i ≤ 67108864 := by
        intro i hi
        have e0 : ad X base f 0 = base := rfl
        have m1 := ad_mono (X := X) (base := base) (f := f) (i := 0) (j := i) (fun k hk => (HI.out.word k (by omega)).1) (Nat.zero_le _)
        have m2 := ad_mono (X := X) (base := base) (f := f) (i := i) (j := n) (fun k hk => (HI.out.word k hk).1) hi
        have := HL.out.2
        omega
      have HBD := Lib.hid hbd
      clear hown hb hF hbd
      go_wp2_with fail
      go_loopw [10, 11, 12] (fun s10 s11 s12 wr => ∃ k : Nat, s12 = .int .i64 k ∧ k ≤ n ∧ wr.ownsRow w2.heap.size 38 1 s10 (wordsL X n base f k).length (byW (wordsL X n base f k)) ∧ wr.ownsRow w2.heap.size 47 2 s11 (placesL X (ad X base f) k).length (rowP (placesL X (ad X base f) k)) ∧ Below w2.heap.size w2 wr) (fun _ _ s12 _ => n - (intOf s12).toNat)
      case atStart => exact ⟨0, rfl, Nat.zero_le _, World.ownsRow_nil _ _ _ _, World.ownsRow_nil _ _ _ _, Below.refl _ _⟩
      case round =>
        obtain ⟨k, rfl, hk, ho, hp, hb⟩ := hrel
        obtain ⟨v10, hv10⟩ : ∃ v10, v10 = u10 := ⟨_, rfl⟩
        obtain ⟨v11, hv11⟩ : ∃ v11, v11 = u11 := ⟨_, rfl⟩
        rw [← hv10] at ho ⊢
        rw [← hv11] at hp ⊢
        clear hv10 hv11
        by_cases hlt : k < n
        · as_aux_lemma =>
            have d1 : decide ((k : Int) < (n : Int)) = true := by simp; omega
            have ek : (k : Int) < (n : Int) := by omega
            obtain ⟨F, rfl, hFl⟩ := HF.out.2 (by omega)
            obtain ⟨b, off, hpi, -⟩ := HI.out.at hlt
            subst hpi
            have hLN : (wordsL X n base f k).length + (iw X n base f k).length ≤ 1000000000 := by
              have h1 := wordsL_len HV.out (fun i hi => (HI.out.word i hi).1) (kind_of HC.out) (k + 1) (by omega) (base := base)
              have h2 := HBD.out (k + 1) (by omega)
              have h3 := (check_parts HC.out).1
              have e : wordsL X n base f (k + 1) = wordsL X n base f k ++ iw X n base f k := rfl
              rw [e, List.length_append] at h1
              omega
            have hld := lay_cells HI.out HF.out.1 HA.out hlt rfl
            have HLD := Lib.hid hld
            obtain ⟨k0, k1, k2, k3, k4, k5, k6, k7, kf, ka⟩ := hld wr hb
            have HB := Lib.hid hb
            have HO := Lib.hid (And.intro ho hp)
            clear hld hb ho hp hFl
            have hna := rnamed_any (X k) wr
            obtain ⟨nm, hnm⟩ : ∃ nm, nm = named (X k) := ⟨_, rfl⟩
            rw [← hnm] at hna
            have HNM := Lib.hid hnm
            have HNA := Lib.hid hna
            clear hnm hna kf ka
            go_wp2_with fail
            refine HNA.out.mono ?_
            rintro e w4 ⟨rfl, hb4⟩
            have HB24 := Lib.hid (HB.out.trans (hb4.mono HB.out.size))
            have HB4 := Lib.hid hb4
            clear hb4 k0 k1 k2 k3 k4 k5 k6 k7
            go_upto_if 37 with fail
            go_cut [13] (fun c wx => ∃ T, c = .int .i64 T ∧ Hid ((named (X k) = true → T = ad X base f (tgt X n k)) ∧ 0 ≤ T ∧ T ≤ 67108864) ∧ w4 = wx)
            case first =>
              as_aux_lemma =>
                cases nm with
                | true =>
                  as_aux_lemma =>
                    have hst := named_tgt HC.out hlt HNM.out.symm
                    obtain ⟨t, ht⟩ : ∃ t, t = tgt X n k := ⟨_, rfl⟩
                    rw [← ht] at hst
                    obtain ⟨hst, htl⟩ := hst
                    have cA := (HA.out.below HB24.out).cell (show t < n + 1 by omega)
                    have c6 := (HLD.out w4 HB24.out).2.2.2.2.2.2.1
                    have hsta := rstands_at (HI.out.below HB24.out) hn (X k).lab
                    rw [hst] at hsta
                    have HST := Lib.hid hsta
                    have HT := Lib.hid ht
                    have hti : (t : Int) < (n : Int) + 1 := by omega
                    clear hst hsta ht
                    go_wp2_with fail
                    refine HST.out.mono ?_
                    rintro e w5 ⟨rfl, rfl⟩
                    go_wp2_with fail
                    go_meet
                    case rel => exact ⟨_, rfl, Lib.hid ⟨(fun _ => by rw [HT.out]), HBD.out t (by omega)⟩, rfl⟩
                | false =>
                  as_aux_lemma =>
                    go_wp2_with fail
                    go_meet
                    case rel => exact ⟨_, rfl, Lib.hid ⟨(fun h => by rw [← HNM.out] at h; cases h), by omega, by omega⟩, rfl⟩
            case rest =>
              as_aux_lemma =>
                obtain ⟨T, rfl, hT, rfl⟩ := hcut
                have hb24 := HB24.out
                have hb4 := HB4.out
                have hOW := own_below HO.out.1 hb4
                have hOP := own_below HO.out.2 hb4
                have h10 := hLN
                obtain ⟨a, ha⟩ : ∃ a, a = ad X base f k := ⟨_, rfl⟩
                have hab := HBD.out k (by omega)
                rw [← ha] at hab
                have hld : ∀ w', Below w2.heap.size w2 w' → w'.cell? ⟨b, off + k * 8, none⟩ = some (.int .i64 (X k).kind) ∧ w'.cell? ⟨b, off + k * 8 + 1, none⟩ = some (.int .i64 (X k).op) ∧ w'.cell? ⟨b, off + k * 8 + 2, none⟩ = some (.int .i64 (X k).d) ∧ w'.cell? ⟨b, off + k * 8 + 3, none⟩ = some (.int .i64 (X k).a) ∧ w'.cell? ⟨b, off + k * 8 + 4, none⟩ = some (.int .i64 (X k).b) ∧ w'.cell? ⟨b, off + k * 8 + 5, none⟩ = some (.int .i64 (X k).imm) ∧ w'.cell? ⟨b, off + k * 8 + 6, none⟩ = some (.string (X k).lab) ∧ w'.cell? ⟨b, off + k * 8 + 7, none⟩ = some (.int .u32 (X k).word) ∧ w'.cell? ⟨F, k, none⟩ = some (.int .i64 (f k)) ∧ w'.cell? ⟨A, k, none⟩ = some (.int .i64 a) := by rw [ha]; exact HLD.out
                obtain ⟨q0, q1, q2, q3, q4, q5, q6, q7, qf, qa⟩ := hld w4.drew hb24.drew
                obtain ⟨rq0, rq1, rq2, rq3, rq4, rq5, rq6, rq7, rqf, rqa⟩ := hld w4 hb24
                have hwd := rWords_at (X := X) (n := n) (base := base) (f := f) hlt HV.out (kind_of HC.out k hlt) (HI.out.word k hlt) ha hT.out.1 hT.out.2 hab w4.drew
                have HWD := Lib.hid hwd
                have HX := Lib.hid (And.intro hb24 (And.intro hOW (And.intro hOP (And.intro hb4 (And.intro ha (And.intro hld h10))))))
                have eki : (k : Int) < (n : Int) + 1 := by omega
                clear hwd hb24 hOW hOP hb4 ha hld h10 hab hLN
                go_wp2_with fail
                first
                  | (go_region_held_law (fun w' => w'.cell? ⟨b, off + k * 8, none⟩ = some (.int .i64 (X k).kind) ∧ w'.cell? ⟨b, off + k * 8 + 1, none⟩ = some (.int .i64 (X k).op) ∧ w'.cell? ⟨b, off + k * 8 + 2, none⟩ = some (.int .i64 (X k).d) ∧ w'.cell? ⟨b, off + k * 8 + 3, none⟩ = some (.int .i64 (X k).a) ∧ w'.cell? ⟨b, off + k * 8 + 4, none⟩ = some (.int .i64 (X k).b) ∧ w'.cell? ⟨b, off + k * 8 + 5, none⟩ = some (.int .i64 (X k).imm) ∧ w'.cell? ⟨b, off + k * 8 + 6, none⟩ = some (.string (X k).lab) ∧ w'.cell? ⟨b, off + k * 8 + 7, none⟩ = some (.int .u32 (X k).word) ∧ w'.cell? ⟨F, k, none⟩ = some (.int .i64 (f k)) ∧ w'.cell? ⟨A, k, none⟩ = some (.int .i64 a)) (go_keep)
                      (first
                        | (go_at_call 31; refine HWD.out.mono ?_; rintro e9 w9 ⟨sv9, rfl, hs9, hb9⟩; have hbb : Below w4.heap.size w4 w9 := (Below.refl _ _).drew.trans hb9; have hBA := (HX.out.1.trans (hbb.mono HX.out.1.size)); obtain ⟨z0, z1, z2, z3, z4, z5, z6, z7, zf, za⟩ := HX.out.2.2.2.2.2.1 w9 hBA; obtain ⟨vA, wA, hrun, hownA, hgA⟩ := append_words (own_below HX.out.2.1 hbb) hs9 HX.out.2.2.2.2.2.2 hBA.size; have hbA : Below w2.heap.size w2 wA := hBA.grown hgA hBA.size (fun q hq => ((own_below HX.out.2.1 hbb).lt q hq).1); obtain ⟨y0, y1, y2, y3, y4, y5, y6, y7, yf, ya⟩ := HX.out.2.2.2.2.2.1 wA hbA)
                        | (refine step_run rfl _ _ rfl rfl rfl hrun ?_)))
                  | fail
                all_goals
                  have hp9 := ((own_below HX.out.2.2.1 hbb).kept hgA (own_apart (own_below HX.out.2.2.1 hbb) (own_below HX.out.2.1 hbb) (by decide)))
                  obtain ⟨wB, hwB⟩ : ∃ wB, wB = wA := ⟨_, rfl⟩
                  rw [← hwB] at hownA hbA hp9 ⊢
                  have HW := Lib.hid (And.intro hownA (And.intro hp9 hbA))
                  have hldB := HX.out.2.2.2.2.2.1 wB hbA
                  clear hownA hp9 hbA hrun hgA hwB hs9 hb9 hbb hBA y0 y1 y2 y3 y4 y5 y6 y7 yf ya z0 z1 z2 z3 z4 z5 z6 z7 zf za q0 q1 q2 q3 q4 q5 q6 q7 qf qa rq0 rq1 rq2 rq3 rq4 rq5 rq6 rq7 rqf rqa
                  obtain ⟨k0, k1, k2, k3, k4, k5, k6, k7, kf, ka⟩ := hldB
                  clear k1 k2 k3 k4 k5 k7 kf
                  by_cases hk2 : (X k).kind = 2
                  · as_aux_lemma =>
                      have d2 : ((X k).kind == 2) = true := by simp [hk2]
                      have HK := Lib.hid hk2
                      clear hk2
                      have hpl := placesL_len X (ad X base f) k
                      have hwk : ∀ o, (wB.drew.alloc o).ownsRow w2.heap.size 47 2 v11 (placesL X (ad X base f) k).length (rowP (placesL X (ad X base f) k)) := fun o => World.ownsRow.alloc (w := wB.drew) HW.out.2.1 o
                      have hnew : ∀ j u, (plC ((X k).lab, a))[j]? = some u → (wB.drew.alloc (.cells #[.string (X k).lab, .int .i64 a] 47)).cell? ((⟨wB.heap.size, 0, none⟩ : Addr).add j) = some u := fun j u hu => (cell_newL wB.drew (plC ((X k).lab, a)) 47 j).trans hu
                      have hcell : ∀ (o : Obj) (w' : World), (wB.drew.alloc o).grownBy w' v11.ownBlock → w'.cell? ⟨b, off + k * 8 + 6, none⟩ = some (.string (X k).lab) ∧ w'.cell? ⟨A, k, none⟩ = some (.int .i64 a) := by
                        intro o w' hg
                        have hbo : Below w2.heap.size w2 w' := (HW.out.2.2.drew.alloc HW.out.2.2.size _).grown hg (by have := HW.out.2.2.size; simp; omega) (fun q hq => (HW.out.2.1.lt q hq).1)
                        have h := HX.out.2.2.2.2.2.1 w' hbo
                        exact ⟨h.2.2.2.2.2.2.1, h.2.2.2.2.2.2.2.2.2⟩
                      have HH := Lib.hid (And.intro hwk (And.intro hnew hcell))
                      have h3 : (placesL X (ad X base f) k).length + 1 ≤ maxLen := by unfold maxLen; omega
                      have h4 : ((placesL X (ad X base f) k).length + 1) * 24 ≤ 140737488355328 := by omega
                      have h5 : ∀ o, w2.heap.size ≤ (wB.drew.alloc o).heap.size := fun o => by have := HW.out.2.2.size; simp; omega
                      have HS := Lib.hid (And.intro h3 (And.intro h4 h5))
                      clear hwk hnew hcell h3 h4 h5 hpl
                      go_wp2_with fail
                      go_region_held_law (fun w' => w'.cell? ⟨b, off + k * 8 + 6, none⟩ = some (.string (X k).lab) ∧ w'.cell? ⟨A, k, none⟩ = some (.int .i64 a)) (go_keep)
                        (first
                          | (refine step_append_lies _ rfl _ _ 28 rfl w2.heap.size 47 i0 (.agg #[.string ByteArray.empty, .int .i64 0]) 2 24 Tryd.underlying28 hi hz0 hz1 hz2 rfl (by decide) v11 _ _ rfl (HH.out.1 _) ⟨wB.heap.size, 0, none⟩ 1 1 (plC ((X k).lab, a)) rfl rfl HH.out.2.1 (one_plC _) Nat.one_pos HS.out.1 HS.out.2.1 (HS.out.2.2 _) _ rfl ?_; intro g9 cap9 w9 hown9 hg9 hat9 hlt9; have hs9 := HH.out.2.2 _ _ hg9; obtain ⟨y0, y1⟩ := hs9))
                      all_goals
                        go_wp2_with fail
                        go_roundw
                        case rel =>
                          have e : placesL X (ad X base f) (k + 1) = placesL X (ad X base f) k ++ [((X k).lab, a)] := by
                            show (if (X k).kind = 2 then _ else _) = _
                            rw [if_pos HK.out, ← HX.out.2.2.2.2.1]
                          have hwx : (wB.drew.alloc (.cells #[.string (X k).lab, .int .i64 a] 47)).ownsRow w2.heap.size 38 1 vA _ (byW (wordsL X n base f k ++ iw X n base f k)) := World.ownsRow.alloc (w := wB.drew) HW.out.1 _
                          refine ⟨k + 1, by go_num, hlt, ?_, ?_, ?_⟩
                          · have h' := hwx.kept hg9 (own_apart hwx (HH.out.1 _) (by decide))
                            show World.ownsRow _ _ _ _ _ (wordsL X n base f k ++ iw X n base f k).length _
                            rw [List.length_append]
                            exact h'
                          · rw [e, rowP_app, List.length_append]
                            exact hown9
                          · exact (HW.out.2.2.drew.alloc HW.out.2.2.size _).grown hg9 (HS.out.2.2 _) (fun q hq => (HW.out.2.1.lt q hq).1)
                        case measure => simp [intOf]; omega
                  · as_aux_lemma =>
                      have d2 : ((X k).kind == 2) = false := by simp [hk2]
                      have HK := Lib.hid hk2
                      clear hk2
                      go_wp2_with fail
                      go_roundw
                      case rel =>
                        have e : placesL X (ad X base f) (k + 1) = placesL X (ad X base f) k := by
                          show (if (X k).kind = 2 then _ else _) = _
                          rw [if_neg HK.out]
                        refine ⟨k + 1, by go_num, hlt, ?_, ?_, HW.out.2.2⟩
                        · show World.ownsRow _ _ _ _ _ (wordsL X n base f k ++ iw X n base f k).length _
                          rw [List.length_append]
                          exact HW.out.1
                        · rw [e]
                          exact HW.out.2.1
                      case measure => simp [intOf]; omega
        · as_aux_lemma =>
            have hz : k = n := by omega
            subst hz
            have d1 : decide ((k : Int) < (k : Int)) = false := by simp
            have HX := Lib.hid (And.intro ho (And.intro hp hb))
            clear ho hp hb
            go_wp2_with fail
            go_ret3
            have hsz := HB2.out.size
            exact ⟨Or.inr ⟨HC.out, Or.inr ⟨f, _, _, HL.out.1, HL.out.2, rfl, own_base HX.out.1 hsz, own_base HX.out.2.1 hsz⟩⟩, HB2.out.trans (HX.out.2.2.mono HB2.out.size)⟩
end Go.Proofs.YtbplmbignalbgaaDoor
