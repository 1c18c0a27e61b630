/- Contracts: addresses and fits, by the document's answer. Conditions: items and forms lie as told. -/
import Derived.Test.YtbplmbignalbgaaDoorAsZ
namespace Go.Proofs.YtbplmbignalbgaaDoor
open Go.RowKit Asm
set_option linter.unusedVariables false
set_option linter.unusedSimpArgs false

/-- A row of whole numbers, of one's own or not. -/
structure Row (w : World) (v : Value) (n : Nat) (g : Nat → Int) : Prop where
  own : ∃ B, w.ownsRow B 3 1 v n (rowZ g n)
theorem rowZ_get (g : Nat → Int) {n k : Nat} (h : k < n) : (rowZ g n)[k]? = some (.int .i64 (g k)) := by
  unfold rowZ
  rw [List.getElem?_map, List.getElem?_range h]
  rfl
theorem Row.cell {w : World} {F n cap : Nat} {g : Nat → Int} (h : Row w (.slice (some ⟨F, 0, none⟩) n cap) n g) {k : Nat} (hk : k < n) : w.cell? ⟨F, k, none⟩ = some (.int .i64 (g k)) := by
  obtain ⟨B, ho⟩ := h.own
  rw [ho.cellAt k (by omega), rowZ_get g hk]
theorem Row.below {w w' : World} {v : Value} {n : Nat} {g : Nat → Int} (h : Row w v n g) (hb : Below w.heap.size w w') : Row w' v n g := by
  obtain ⟨B, ho⟩ := h.own
  exact ⟨B, own_below ho hb⟩
theorem Row.shape {w : World} {v : Value} {n : Nat} {g : Nat → Int} (h : Row w v n g) : ∃ p cap, v = .slice p n cap ∧ (0 < n → ∃ F, p = some ⟨F, 0, none⟩ ∧ F < w.heap.size) := by
  obtain ⟨B, ho⟩ := h.own
  rcases ho.2 with ⟨rfl, h0⟩ | ⟨F, cap, cur, rfl, -, hg, -⟩
  · exact ⟨none, 0, by rw [h0], fun h => by omega⟩
  · exact ⟨some ⟨F, 0, none⟩, cap, rfl, fun _ => ⟨F, rfl, lt_of_block hg⟩⟩

/-- append onto a row that is there: what stood in the row still stands there. -/
theorem run_append_kept {P : Program} (w : World) (base : Nat) (t ty e : TypeId) (i : TypeInfo) (z : Value) (size bytes : Nat) (ht : P.underlying t = some (.slice e)) (hi : P.info? e = some i) (hz : i.zero = some z) (hsize : i.size = size) (hby : i.bytes = bytes) (hzs : z.cells.size = size) (hsz : 0 < size)
    (g n cap : Nat) (xs : List Value) (hown : w.ownsRow base e size (.slice (some ⟨g, 0, none⟩) n cap) n xs) (a : Addr) (m c : Nat) (news : List Value) (hl : news.length = m * size) (hnews : ∀ j u, news[j]? = some u → w.cell? (a.add j) = some u) (h1 : ∀ u ∈ news, u.oneCell' = true)
    (hm : 0 < m) (h63 : n + m ≤ 4611686018427387904) (hbytes : (n + m) * bytes ≤ 140737488355328) (hbase : base ≤ w.heap.size) :
    ∃ v' w', (Builtin.append_ #[t, t] ty #[.slice (some ⟨g, 0, none⟩) n cap, .slice (some a) m c]).run P w = .ok v' w' ∧ w'.ownsRow base e size v' (n + m) (xs ++ news) ∧ w.grownBy w' (some g) ∧ ∀ j u, xs[j]? = some u → w'.cell? ⟨g, j, none⟩ = some u := by
  by_cases hroom : n + m ≤ cap
  · obtain ⟨w', hr, ho, hg⟩ := run_append_own_spare (P := P) w base t ty e i size ht hi hsize g n cap xs hown a m c news hl hnews h1 hroom
    refine ⟨_, w', hr, ho, hg, fun j u hu => ?_⟩
    have hj : j < xs.length := (List.getElem?_eq_some_iff.1 hu).1
    have hxl := hown.1
    rw [ho.cellAt j (by rw [Nat.add_mul]; omega), List.getElem?_append_left hj, hu]
  · obtain ⟨v', w', hr, ho, hg, -⟩ := run_append_own (P := P) w base t ty e i z size bytes ht hi hz hsize hby hzs hsz _ n xs hown a m c news hl hnews h1 (by unfold maxLen; omega) hbytes hbase
    refine ⟨v', w', hr, ho, hg, fun j u hu => ?_⟩
    have hold : ∀ j u, xs[j]? = some u → w.cell? ((⟨g, 0, none⟩ : Addr).add j) = some u := hown.cells (g := g) rfl
    have hxl := hown.1
    rw [← hsize] at hxl hl
    have hq := run_append_grow (P := P) w t ty e i z ht hi hz ⟨g, 0, none⟩ n cap xs hxl hold a m c news hl hnews (by omega) (by omega) (growslice_fits (by omega) (by rw [hby]; exact hbytes))
    rw [hq] at hr
    simp only [Result.ok.injEq] at hr
    obtain ⟨-, rfl⟩ := hr
    have h0 := hold j u hu
    rw [show (⟨g, 0, none⟩ : Addr).add j = ⟨g, j, none⟩ by unfold Addr.add; split <;> simp_all] at h0
    exact (World.cell?_alloc_lt w.drew _ _ (World.block_lt_of_cell? w _ h0)).trans h0
theorem step_append_kept {P : Program} {w : World} {ops : Array Oper} {o : Oper} {a : Act} {K : Act → World → Prop} {Q : Exit → Act → World → Prop} {E : Prop} (hgd : o.guard = none) (s x : Operand) (t : TypeId)
    (ho : o.op = .call { callee := .builtin .append, args := #[s, x], argTypes := #[t, t] })
    (base : Nat) (e : TypeId) (i : TypeInfo) (z : Value) (size bytes : Nat) (ht : P.underlying t = some (.slice e)) (hi : P.info? e = some i) (hz : i.zero = some z)
    (hsize : i.size = size) (hby : i.bytes = bytes) (hzs : z.cells.size = size) (hsz : 0 < size)
    (g n cap : Nat) (xs : List Value) (hs : a.eval s = .slice (some ⟨g, 0, none⟩) n cap) (hown : w.ownsRow base e size (.slice (some ⟨g, 0, none⟩) n cap) n xs)
    (ad : Addr) (m c : Nat) (news : List Value) (hx : a.eval x = .slice (some ad) m c) (hl : news.length = m * size) (hnews : ∀ j u, news[j]? = some u → w.cell? (ad.add j) = some u) (h1 : ∀ u ∈ news, u.oneCell' = true)
    (hm : 0 < m) (h63 : n + m ≤ 4611686018427387904) (hbytes : (n + m) * bytes ≤ 140737488355328) (hbase : base ≤ w.heap.size)
    (h : ∀ v' w', w'.ownsRow base e size v' (n + m) (xs ++ news) → w.grownBy w' (some g) → (∀ j u, xs[j]? = some u → w'.cell? ⟨g, j, none⟩ = some u) → K (a.put o.dst v') w') :
    if Region.wanted o (yielded ops a.tmps) = true then Oper.wp P o a w K Q else E := by
  have hw : Region.wanted o (yielded ops a.tmps) = true := by simp [Region.wanted, hgd]
  rw [if_pos hw]
  obtain ⟨v', w', hr, h2, h3, h4⟩ := run_append_kept (P := P) w base t o.type e i z size bytes ht hi hz hsize hby hzs hsz g n cap xs hown ad m c news hl hnews h1 hm h63 hbytes hbase
  unfold Oper.wp execOp
  simp only [ho, resolve, invoke, builtin, Sem.run_bind, Sem.run_pure, Result.andThen_ok, List.map_toArray, List.map_cons, List.map_nil, hs, hx, hr]
  exact h v' w' h2 h3 h4

set_option maxRecDepth 100000 in
set_option maxHeartbeats 4000000 in
theorem rAt_at {w : World} {p : Option Addr} {n c : Nat} {X : Nat → It} {vf : Value} {f : Nat → Nat} (h : Items w p n c X) (hf : Row w vf n (fun i => f i)) (hn : n ≤ 480) (hv : valid X n f) (base : Int) (hb0 : 0 ≤ base ∧ base ≤ 67108864) :
    Calls Tryd.prog 28 #[.slice p n c, vf, .int .i64 base] w fun e w' => ∃ v, e = .returned v ∧ w'.ownsRow w.heap.size 3 1 v (n + 1) (rowZ (ad X base f) (n + 1)) ∧ Below w.heap.size w w' := by
  obtain ⟨pf, cf, rfl, hsh⟩ := hf.shape
  have H := Lib.hid (And.intro h (And.intro hf (And.intro hv (And.intro hb0 hsh))))
  clear h hf hv hb0 hsh
  obtain ⟨i0, hi, hz0, hz1, hz2⟩ := infoI_of
  go_enter Tryd.func28, Tryd.ntmps28
  go_wp2_with fail
  have hr0 : (w.alloc (.cells #[.int .i64 base] 3)).ownsRow w.heap.size 3 1 (.slice (some ⟨w.heap.size, 0, none⟩) 1 1) 1 (rowZ (ad X base f) 1) := World.ownsRow_lit (base := w.heap.size) (e := 3) (size := 1) w _ 1 (Nat.le_refl _) (by decide) rfl
  have hb1 : Below w.heap.size w (w.alloc (.cells #[.int .i64 base] 3)) := (Below.refl _ _).alloc (Nat.le_refl _) _
  have H1 := Lib.hid (And.intro hr0 hb1)
  clear hr0 hb1
  go_loopw [7, 8] (fun v s8 wr => ∃ k : Nat, s8 = .int .i64 k ∧ k ≤ n ∧ wr.ownsRow w.heap.size 3 1 v (k + 1) (rowZ (ad X base f) (k + 1)) ∧ Below w.heap.size w wr) (fun _ s8 _ => n - (intOf s8).toNat)
  case atStart => exact ⟨0, rfl, Nat.zero_le _, H1.out.1, H1.out.2⟩
  case round =>
    obtain ⟨k, rfl, hk, hown, hb⟩ := hrel
    obtain ⟨g, cg, rfl, hbg, hgl⟩ := World.ownsRow.form hown (Nat.succ_pos k)
    by_cases hlt : k < n
    · have d1 : decide ((k : Int) < (n : Int)) = true := by simp; omega
      have ek : (k : Int) < (n : Int) := by omega
      have ek2 : (k : Int) < (k : Int) + 1 := by omega
      obtain ⟨F, rfl, hF⟩ := H.out.2.2.2.2 (by omega)
      obtain ⟨b, off, hp, -⟩ := H.out.1.at hlt
      have hpb := H.out.1.lt (by omega) hp
      rw [hp]
      have hld : ∀ w', Below w.heap.size w w' → w'.cell? ⟨b, off + k * 8, none⟩ = some (.int .i64 (X k).kind) ∧ w'.cell? ⟨b, off + k * 8 + 1, none⟩ = some (.int .i64 (X k).op) ∧ w'.cell? ⟨b, off + k * 8 + 2, none⟩ = some (.int .i64 (X k).d) ∧ w'.cell? ⟨b, off + k * 8 + 3, none⟩ = some (.int .i64 (X k).a) ∧ w'.cell? ⟨b, off + k * 8 + 4, none⟩ = some (.int .i64 (X k).b) ∧ w'.cell? ⟨b, off + k * 8 + 5, none⟩ = some (.int .i64 (X k).imm) ∧ w'.cell? ⟨b, off + k * 8 + 6, none⟩ = some (.string (X k).lab) ∧ w'.cell? ⟨b, off + k * 8 + 7, none⟩ = some (.int .u32 (X k).word) ∧ w'.cell? ⟨F, k, none⟩ = some (.int .i64 (f k)) := by
        intro w' hbw
        obtain ⟨b2, off2, hp2, ks⟩ := (H.out.1.below hbw).at hlt
        rw [hp] at hp2
        cases hp2
        have kf := (H.out.2.1.below hbw).cell hlt
        obtain ⟨a0, a1, a2, a3, a4, a5, a6, a7⟩ := ks
        exact ⟨a0, a1, a2, a3, a4, a5, a6, a7, kf⟩
      have hga := hown.cellAt k (by omega)
      rw [rowZ_get _ (Nat.lt_succ_self k)] at hga
      have hs0 := hld wr hb
      have hs := hld wr.drew hb.drew
      have HLD := Lib.hid hld
      obtain ⟨q0, q1, q2, q3, q4, q5, q6, q7, qf⟩ := hs
      obtain ⟨rq0, rq1, rq2, rq3, rq4, rq5, rq6, rq7, rqf⟩ := hs0
      have hvk : (X k).kind = 3 → 1 ≤ f k ∧ f k ≤ 3 := fun e => by have := H.out.2.2.1 k hlt; rw [if_pos e] at this; exact this
      have hvk4 : (X k).kind = 4 → 1 ≤ f k ∧ f k ≤ 2 := fun e => by have := H.out.2.2.1 k hlt; rw [if_neg (by omega), if_pos e] at this; exact this
      have hf100 : f k < 100 := by
        have := H.out.2.2.1 k hlt
        split at this
        · omega
        · split at this <;> omega
      have hsz := rsize_any (X k) (f k) wr.drew hf100 hvk hvk4 (H.out.1.word k hlt)
      have had := ad_bounds (X := X) (b0 := base) (f := f) H.out.1.word (show k + 1 ≤ n by omega)
      have e1 : ad X base f (k + 1) = ad X base f k + isz (X k) (f k) := rfl
      have hev : IntKind.i64.wrap (ad X base f k + isz (X k) (f k)) = ad X base f (k + 1) := by rw [IntKind.wrap_i64]; have := H.out.2.2.2.1; omega
      have hs3 : k + 1 + 1 ≤ 4611686018427387904 := by omega
      have hs4 : (k + 1 + 1) * 8 ≤ 140737488355328 := by omega
      have HS := Lib.hid (And.intro hs3 hs4)
      clear hs3 hs4
      have HX := Lib.hid (And.intro hown (And.intro hb (And.intro hev (And.intro hpb (And.intro hF (And.intro hbg hgl))))))
      clear hown hb hev hld hpb hF hbg hgl hvk hvk4 had e1 hp
      go_wp2_with fail
      go_region_held_law (fun w' => w'.cell? ⟨b, off + k * 8, none⟩ = some (.int .i64 (X k).kind) ∧ w'.cell? ⟨b, off + k * 8 + 1, none⟩ = some (.int .i64 (X k).op) ∧ w'.cell? ⟨b, off + k * 8 + 2, none⟩ = some (.int .i64 (X k).d) ∧ w'.cell? ⟨b, off + k * 8 + 3, none⟩ = some (.int .i64 (X k).a) ∧ w'.cell? ⟨b, off + k * 8 + 4, none⟩ = some (.int .i64 (X k).b) ∧ w'.cell? ⟨b, off + k * 8 + 5, none⟩ = some (.int .i64 (X k).imm) ∧ w'.cell? ⟨b, off + k * 8 + 6, none⟩ = some (.string (X k).lab) ∧ w'.cell? ⟨b, off + k * 8 + 7, none⟩ = some (.int .u32 (X k).word) ∧ w'.cell? ⟨F, k, none⟩ = some (.int .i64 (f k)) ∧ w'.cell? ⟨g, k, none⟩ = some (.int .i64 (ad X base f k))) (go_keep)
        (first
          | (go_at_call 40; refine hsz.mono ?_; rintro e9 w9 ⟨rfl, hb9⟩; have hbb : Below wr.heap.size wr w9 := (Below.refl _ _).drew.trans hb9; have hbw9 : Below w.heap.size w w9 := HX.out.2.1.trans (hbb.mono HX.out.2.1.size); have hs9 := HLD.out w9 hbw9; obtain ⟨zq0, zq1, zq2, zq3, zq4, zq5, zq6, zq7, zqf⟩ := hs9; have hga9 := (hbb.cell (p := ⟨g, k, none⟩) HX.out.2.2.2.2.2.2).trans hga; have hown9 := own_below HX.out.1 hbb)
          | (refine step_append_kept rfl _ _ 71 rfl w.heap.size 3 i0 (.int .i64 0) 1 8 Tryd.underlying71 hi hz0 hz1 hz2 rfl (by decide) g (k + 1) cg (rowZ (ad X base f) (k + 1)) rfl (World.ownsRow.alloc hown9 _) ⟨w9.heap.size, 0, none⟩ 1 1 [.int .i64 (IntKind.i64.wrap (ad X base f k + isz (X k) (f k)))] rfl rfl (cell_one_new _ _ _) (one_int _) Nat.one_pos HS.out.1 HS.out.2 (hbw9.alloc hbw9.size _).size ?_; intro vA wA hownA hgA hkA; have hbA : Below w.heap.size w wA := (hbw9.alloc hbw9.size _).grown hgA (hbw9.alloc hbw9.size _).size (fun q hq => by cases hq; exact HX.out.2.2.2.2.2.1); have hsA := HLD.out wA hbA; obtain ⟨yq0, yq1, yq2, yq3, yq4, yq5, yq6, yq7, yqf⟩ := hsA; have hgaA := hkA k _ (rowZ_get (ad X base f) (Nat.lt_succ_self k))))
      all_goals
        go_wp2_with fail
        go_roundw
        case rel =>
          rw [HX.out.2.2.1] at hownA
          refine ⟨k + 1, by go_num, hlt, ?_, hbA⟩
          rw [rowZ_succ]
          exact hownA
        case measure => simp [intOf]; omega
    · have hz : k = n := by omega
      subst hz
      have d1 : decide ((k : Int) < (k : Int)) = false := by simp
      have HX := Lib.hid (And.intro hown hb)
      clear hown hb
      go_wp2_with fail
      go_ret
      exact ⟨_, rfl, HX.out⟩
end Go.Proofs.YtbplmbignalbgaaDoor
