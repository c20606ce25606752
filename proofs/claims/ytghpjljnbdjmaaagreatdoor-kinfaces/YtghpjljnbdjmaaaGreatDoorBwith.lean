/- The document's With, walked. The document's Next, walked. The document's Round, walked. -/
import Derived.Test.YtghpjljnbdjmaaaGreatDoorBfind
namespace Go.Proofs.YtghpjljnbdjmaaaGreatDoor
open Go.RowKit
set_option linter.unusedVariables false

theorem below_row {w0 w w' : World} {B base n size : Nat} {e : TypeId} {v : Value} {xs : List Value} (hb : Below B w0 w) (hlo : B ≤ w0.heap.size) (ho : w.ownsRow base e size v n xs) (hB : B ≤ base) (hg : w.grownBy w' v.ownBlock) : Below B w0 w' :=
  hb.grown hg (Nat.le_trans hlo hb.size) (fun k hk => Nat.le_trans hB (ho.lt k hk).1)

theorem add_zero (b o j : Nat) : (⟨b, o, none⟩ : Addr).add j = ⟨b, o + j, none⟩ := by unfold Addr.add; split <;> simp_all

/-- The values that a slice of slices holds. -/
theorem NR.vals {w : World} {v : Value} {V : Nat} {R : Nat → List Nat} (h : NR w v V R) (hV : 0 < V) : ∃ b o cap, ∃ us : List Value, v = .slice (some ⟨b, o, none⟩) V cap ∧ V ≤ cap ∧ cap ≤ maxLen ∧ us.length = V ∧ (∀ (k : Nat) x, us[k]? = some x → w.cell? ⟨b, o + k, none⟩ = some x ∧ NL w x (R k)) := by
  obtain ⟨ad, cap, h1, h2, h3, h4⟩ := h
  obtain ⟨b, o, _, e0, _⟩ := h4 0 hV
  have hx : ∀ u, ∃ x, u < V → w.cell? ⟨b, o + u, none⟩ = some x ∧ NL w x (R u) := fun u => by
    by_cases hu : u < V
    · obtain ⟨b', o', x, e1, e2, e3⟩ := h4 u hu
      rw [e0] at e1
      simp only [Option.some.injEq, Addr.mk.injEq, and_true] at e1
      obtain ⟨rfl, rfl⟩ := e1
      exact ⟨x, fun _ => ⟨e2, e3⟩⟩
    · exact ⟨.nilIface, fun hu' => absurd hu' hu⟩
  obtain ⟨X, hX⟩ : ∃ X : Nat → Value, ∀ u, u < V → w.cell? ⟨b, o + u, none⟩ = some (X u) ∧ NL w (X u) (R u) := ⟨fun u => (hx u).choose, fun u => (hx u).choose_spec⟩
  refine ⟨b, o, cap, (List.range V).map X, by rw [h1, e0], h2, h3.1, by simp, fun k x hk => ?_⟩
  have hkV : k < V := by have := (List.getElem?_eq_some_iff.1 hk).1; simpa using this
  simp [hkV] at hk
  subst hk
  exact hX k hkV

theorem blk2 {w : World} {g : Nat} {t : TypeId} {x y : Value} (h : w.heap[g]? = some (.cells #[x, y] t (0, 0))) : w.cell? ⟨g, 0, none⟩ = some x ∧ w.cell? ⟨g, 1, none⟩ = some y ∧ w.frozen? ⟨g, 0, none⟩ = false ∧ w.frozen? ⟨g, 1, none⟩ = false := by
  unfold World.cell? World.frozen?
  rw [h]
  exact ⟨rfl, rfl, rfl, rfl⟩

theorem set2_block {w : World} {g : Nat} {t : TypeId} {u v : Value} (h : w.heap[g]? = some (.cells #[u, v] t (0, 0))) (a b : Value) : ((w.setCell ⟨g, 0, none⟩ a).setCell ⟨g, 1, none⟩ b).heap[g]? = some (.cells #[a, b] t (0, 0)) := by
  unfold World.setCell
  rw [Array.getElem?_modify, if_pos rfl, Array.getElem?_modify, if_pos rfl, h]
  simp

theorem below2 {B : Nat} {a w : World} {g : Nat} (h : Below B a w) (hg : B ≤ g) (x y : Value) : Below B a ((w.setCell ⟨g, 0, none⟩ x).setCell ⟨g, 1, none⟩ y) := by
  refine h.trans ⟨rfl, rfl, rfl, by simp [World.setCell], fun k hk => ?_⟩
  rw [Below.heap_setCell _ _ _ _ (by show k ≠ g; omega), Below.heap_setCell _ _ _ _ (by show k ≠ g; omega)]

theorem NL.one {w : World} {v : Value} {l : List Nat} (h : NL w v l) : v.oneCell' = true := by
  obtain ⟨ad, n, cap, rfl, _⟩ := h
  rfl

set_option maxRecDepth 100000 in
set_option maxHeartbeats 4000000 in
theorem rwith_ok (tv lv : Value) (E V u : Nat) (R : Nat → List Nat) (l : List Nat) (w : World) (hv : RT w tv E V R) (hl : NL w lv l) (hu : u < V) (hV : V ≤ 1000) :
    Calls Tryz.prog 82 #[tv, .int .i64 (u : Int), lv] w fun e w' => ∃ tv', e = .returned tv' ∧ RT w' tv' E V (upd R u l) ∧ Below w.heap.size w w' := by
  obtain ⟨i0, hif, hz0, hz1, hz2⟩ := info_parts infoInts
  obtain ⟨rv, rfl, hr⟩ := hv
  obtain ⟨b, o, cap, us, rfl, hc1, hc2, hlen, hcell⟩ := hr.vals (by omega)
  obtain ⟨la, ln, lc, rfl, hl2⟩ := hl
  have hlv : NL w (.slice la ln lc) l := ⟨la, ln, lc, rfl, hl2⟩
  obtain ⟨c0, c1⟩ := two_new w (.int .i64 (E : Int)) (.slice (some ⟨b, o, none⟩) V cap) 27
  have hb1 : Below w.heap.size w ((w.alloc (.cells #[.int .i64 (E : Int), .slice (some ⟨b, o, none⟩) V cap] 27)).alloc (.cells #[.int .i64 0, .slice none 0 0] 27)) := (balloc _ _).trans ((balloc _ _).mono (by simp))
  have d1 := ((balloc (w.alloc (.cells #[.int .i64 (E : Int), .slice (some ⟨b, o, none⟩) V cap] 27)) (.cells #[.int .i64 0, .slice none 0 0] 27)).cell (World.block_lt_of_cell? _ _ c0)).trans c0
  have d2 := ((balloc (w.alloc (.cells #[.int .i64 (E : Int), .slice (some ⟨b, o, none⟩) V cap] 27)) (.cells #[.int .i64 0, .slice none 0 0] 27)).cell (World.block_lt_of_cell? _ _ c1)).trans c1
  have hcs : ∀ (j : Nat) x, us[j]? = some x → ((w.alloc (.cells #[.int .i64 (E : Int), .slice (some ⟨b, o, none⟩) V cap] 27)).alloc (.cells #[.int .i64 0, .slice none 0 0] 27)).cell? ((⟨b, o, none⟩ : Addr).add j) = some x := fun j x hx => by
    rw [add_zero]
    have := (hcell j x hx).1
    exact (hb1.cell (World.block_lt_of_cell? w _ this)).trans this
  have hone : ∀ x ∈ us, x.oneCell' = true := fun x hx => by
    obtain ⟨k, hk⟩ := List.getElem?_of_mem hx
    exact (hcell k x hk).2.one
  replace hcell := hid (fun k x hk => (hcell k x hk).2)
  have i1 : (0 : Int) ≤ (u : Int) := by omega
  have i2 : (u : Int) < (V : Int) := by omega
  clear hl2
  go_enter Tryz.func82, Tryz.ntmps82
  go_wp2_with (at_builtin; refine wpList_append_own _ rfl (.tmp 8) (.tmp 10) 25 rfl (w.heap.size + 2) 30 i0 _ 1 24 Tryz.underlying25 hif hz0 hz1 hz2 rfl (by decide) _ _ _ rfl (World.ownsRow_nil _ _ _ _) ⟨b, o, none⟩ V cap us rfl (by rw [hlen]; omega) hcs hone (by unfold maxLen; omega) (by omega) (by simp) ?_; intro v' w' ho' hg' _; refine Hid.out ?_)
  replace hg' : World.grownBy _ w' none := hg'
  have ho2 : w'.ownsRow (w.heap.size + 2) 30 1 v' V us := by simpa using ho'
  have hbA : Below w.heap.size w w' := hb1.grown hg' (by simp; omega) (fun k hk => by cases hk)
  obtain ⟨g2, c2, rfl, hg2c, hg2m⟩ := own_form ho2 (by omega)
  have hg2 : w.heap.size + 2 ≤ g2 := (ho2.lt g2 rfl).1
  obtain ⟨xu, hxu⟩ : ∃ x, us[u]? = some x := ⟨_, List.getElem?_eq_getElem (by omega)⟩
  have k1 : w'.cell? ⟨g2, u, none⟩ = some xu := (ho2.cellAt u (by omega)).trans hxu
  have k2 : w'.frozen? ⟨g2, u, none⟩ = false := ho2.frozenAt u
  obtain ⟨s1, s2⟩ := ho2.stored u (.slice la ln lc)
  replace s2 : World.grownBy w' _ (some g2) := s2
  have e1 := hg'.cell d1 (by simp)
  have hres : w'.heap[w.heap.size + 1]? = some (.cells #[.int .i64 0, .slice none 0 0] 27) := by
    have h0 := heap_alloc_new (w.alloc (.cells #[.int .i64 (E : Int), .slice (some ⟨b, o, none⟩) V cap] 27)) (.cells #[.int .i64 0, .slice none 0 0] 27)
    simp only [World.size_alloc] at h0
    exact (hg'.block (w.heap.size + 1) (by simp) (by simp)).trans h0
  have e2 : (w'.setCell ⟨g2, u, none⟩ (.slice la ln lc)).cell? ⟨w.heap.size, 0, none⟩ = some (.int .i64 (E : Int)) := s2.cell e1 (fun e => by have := Option.some.inj e; simp only [] at this; omega)
  have hres2 : (w'.setCell ⟨g2, u, none⟩ (.slice la ln lc)).heap[w.heap.size + 1]? = some (.cells #[.int .i64 0, .slice none 0 0] 27) := (s2.block (w.heap.size + 1) (Array.getElem?_eq_some_iff.1 hres).1 (fun e => by have := Option.some.inj e; omega)).trans hres
  have bF : Hid (Below w.heap.size w (w'.setCell ⟨g2, u, none⟩ (.slice la ln lc))) := hbA.grown s2 (Nat.le_trans (Nat.le_refl _) hbA.size) (fun k hk => by have := Option.some.inj hk; omega)
  have hrow : Hid ((w'.setCell ⟨g2, u, none⟩ (.slice la ln lc)).ownsRow (w.heap.size + 2) 30 1 (.slice (some ⟨g2, 0, none⟩) V c2) V (us.set u (.slice la ln lc))) := s1
  clear ho' hg' ho2 s1 s2 e1 hres hbA hcs d1 d2 c0 c1 hb1
  obtain ⟨w2, hw2⟩ : ∃ w2, w'.setCell ⟨g2, u, none⟩ (.slice la ln lc) = w2 := ⟨_, rfl⟩
  rw [hw2] at e2 hres2 bF hrow
  obtain ⟨f1, f2, f3, f4⟩ := blk2 hres2
  have hfin := hid (set2_block hres2 (.int .i64 (E : Int)) (.slice (some ⟨g2, 0, none⟩) V c2))
  have bG := hid (below2 bF.out (show w.heap.size ≤ w.heap.size + 1 from Nat.le_succ _) (.int .i64 (E : Int)) (.slice (some ⟨g2, 0, none⟩) V c2))
  have hrow2 : Hid (((w2.setCell ⟨w.heap.size + 1, 0, none⟩ (.int .i64 (E : Int))).setCell ⟨w.heap.size + 1, 1, none⟩ (.slice (some ⟨g2, 0, none⟩) V c2)).ownsRow (w.heap.size + 2) 30 1 (.slice (some ⟨g2, 0, none⟩) V c2) V (us.set u (.slice la ln lc))) := by
    refine ⟨hrow.out.1, ?_⟩
    rcases hrow.out.2 with h | ⟨g, cap, cur, e, h1, h2, h3⟩
    · exact .inl h
    · refine .inr ⟨g, cap, cur, e, h1, ?_, h3⟩
      rw [Below.heap_setCell _ _ _ _ (by show g ≠ w.heap.size + 1; omega), Below.heap_setCell _ _ _ _ (by show g ≠ w.heap.size + 1; omega)]
      exact h2
  clear hres2 hrow bF
  refine hid ?_
  go_wp2_with fail
  refine bodyPost_ret (results_cell_row rfl _ _ (w.heap.size + 1) 27 _ (0, 0) _ rfl hfin.out Tryz.underlying27 rfl (by kernel_rfl)) rfl ?_
  refine ⟨_, rfl, ⟨_, rfl, ?_⟩, bG.out⟩
  refine ⟨_, c2, rfl, hg2c, ⟨hg2m, fun a e => ⟨g2, 0, (Option.some.inj e).symm, row_ty hrow2.out rfl⟩⟩, fun k hk => ?_⟩
  obtain ⟨y, hy⟩ : ∃ y, (us.set u (.slice la ln lc))[k]? = some y := ⟨_, List.getElem?_eq_getElem (by rw [List.length_set]; omega)⟩
  refine ⟨g2, 0, y, rfl, by rw [Nat.zero_add, hrow2.out.cellAt k (by omega)]; exact hy, ?_⟩
  rw [List.getElem?_set] at hy
  by_cases e : u = k
  · subst e
    rw [if_pos rfl, if_pos (by omega)] at hy
    cases hy
    rw [upd_same]
    exact hlv.below bG.out
  · rw [if_neg e] at hy
    rw [upd_ne (Ne.symm e)]
    exact (hcell.out k y hy).below bG.out

end Go.Proofs.YtghpjljnbdjmaaaGreatDoor

namespace Go.Proofs.YtghpjljnbdjmaaaGreatDoor
open Go.RowKit
set_option linter.unusedVariables false

theorem pv_at {l : List Nat} {x i : Nat} (hn : l.Nodup) (hi : l[i]? = some x) : l[(i + l.length - 1) % l.length]? = some (pv l x) := by
  obtain ⟨hlt, hxe⟩ := List.getElem?_eq_some_iff.1 hi
  have hk : (i + l.length - 1) % l.length < l.length := Nat.mod_lt _ (by omega)
  have hy : l[(i + l.length - 1) % l.length]? = some l[(i + l.length - 1) % l.length] := List.getElem?_eq_getElem hk
  have := nx_at hn hy
  rw [Nat.mod_add_mod, show i + l.length - 1 + 1 = i + l.length from by omega, Nat.add_mod_right, Nat.mod_eq_of_lt hlt, hi] at this
  rw [hy, Option.some.inj this, pv_nx hn (List.mem_of_getElem? hy)]

/-- So many steps on, by places: what the document reckons. -/
theorem step_at (n i : Nat) (by' : Int) (hn : 0 < n) (hi : i < n) (hb : by' = 1 ∨ by' = -1) (hs : n ≤ 1000) : ∃ k : Nat, k < n ∧ (IntKind.i64.wrap (IntKind.i64.wrap ((i : Int) + by') + (n : Int))).tmod (n : Int) = (k : Int) ∧ (by' = 1 → k = (i + 1) % n) ∧ (by' = -1 → k = (i + n - 1) % n) := by
  have w1 : IntKind.i64.wrap ((i : Int) + by') = (i : Int) + by' := by rw [IntKind.wrap_i64]; omega
  have w2 : IntKind.i64.wrap ((i : Int) + by' + (n : Int)) = (i : Int) + by' + (n : Int) := by rw [IntKind.wrap_i64]; omega
  rw [w1, w2, Int.tmod_eq_emod_of_nonneg (by omega)]
  rcases hb with rfl | rfl
  · refine ⟨(i + 1) % n, Nat.mod_lt _ hn, ?_, fun _ => rfl, fun h => by omega⟩
    rw [show (i : Int) + 1 + (n : Int) = ((i + 1 + n : Nat) : Int) from by omega, ← Int.natCast_emod, Nat.add_mod_right]
  · refine ⟨(i + n - 1) % n, Nat.mod_lt _ hn, ?_, fun h => by omega, fun _ => rfl⟩
    rw [show (i : Int) + -1 + (n : Int) = ((i + n - 1 : Nat) : Int) from by omega, ← Int.natCast_emod]



end Go.Proofs.YtghpjljnbdjmaaaGreatDoor

namespace Go.Proofs.YtghpjljnbdjmaaaGreatDoor
open Go.RowKit
set_option linter.unusedVariables false

/-- Numbers as cells. -/
def ncs (l : List Nat) : List Value := l.map (fun i : Nat => .int .i64 (i : Int))
@[simp] theorem ncs_length (l : List Nat) : (ncs l).length = l.length := by simp [ncs]
theorem ncs_append (a b : List Nat) : ncs (a ++ b) = ncs a ++ ncs b := by simp [ncs]

/-- A row of one's own is to be read. -/
theorem nl_of {base : Nat} {w : World} {v : Value} {l : List Nat} (h : w.ownsRow base 3 1 v l.length (ncs l)) : NL w v l := by
  rcases h.2 with ⟨rfl, h0⟩ | ⟨g, cap, cur, rfl, _, hg, h1, h2, _⟩
  · have : l = [] := List.eq_nil_of_length_eq_zero h0
    subst this
    exact ⟨none, 0, 0, rfl, rfl, ⟨Nat.le_refl _, fun _ => rfl, fun a e => by cases e⟩, Nat.zero_le _, fun j x hx => by simp at hx⟩
  · refine ⟨some ⟨g, 0, none⟩, l.length, cap, rfl, rfl, ⟨h1, (fun e => by cases e), fun a e => ⟨g, 0, (Option.some.inj e).symm, _, _, hg⟩⟩, h2, fun j x hx => ⟨g, 0, rfl, ?_⟩⟩
    have hj := (List.getElem?_eq_some_iff.1 hx).1
    rw [Nat.zero_add, h.cellAt j (by omega)]
    simp [ncs, hx]

theorem one_new (w : World) (u : Value) (t : TypeId) : ∀ j x, ([u] : List Value)[j]? = some x → (w.alloc (.cells #[u] t)).cell? ((⟨w.heap.size, 0, none⟩ : Addr).add j) = some x := by
  intro j x hx
  rw [add_zero, Nat.zero_add]
  have hn := heap_alloc_new w (.cells #[u] t)
  unfold World.cell?
  rw [hn]
  simpa using hx

/-- The least of the first ones. -/
def Lo (l : List Nat) (j a : Nat) : Prop := (j = 0 ∧ a = 0) ∨ ∃ x, a < j ∧ l[a]? = some x ∧ ∀ (k y : Nat), k < j → l[k]? = some y → x ≤ y

theorem Lo.least {l : List Nat} {a : Nat} (h : Lo l l.length a) (hne : l ≠ []) : l[a]? = some (least0 l) := by
  rcases h with ⟨h0, _⟩ | ⟨x, h1, h2, h3⟩
  · exact absurd (List.eq_nil_of_length_eq_zero h0) hne
  · obtain ⟨k, hk⟩ := List.getElem?_of_mem (least0_mem l hne)
    have q1 := h3 k _ (List.getElem?_eq_some_iff.1 hk).1 hk
    have q2 := least0_le l x (List.mem_of_getElem? h2)
    rw [h2]
    congr 1
    omega



end Go.Proofs.YtghpjljnbdjmaaaGreatDoor
