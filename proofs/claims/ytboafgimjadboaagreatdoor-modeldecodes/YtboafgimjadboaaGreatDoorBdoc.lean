/- The document's Find, Check, walked. The document's Check of a corner, walked. The document's With, walked. The document's Next, walked. The document's Round, walked. The document's Darts, walked. -/
import Derived.Test.YtboafgimjadboaaGreatDoorBmem
namespace Go.Proofs.YtboafgimjadboaaGreatDoor
open Go.RowKit
set_option linter.unusedVariables false

/-- Where a dart stands; (-1, -1): nowhere. -/
def At (V : Nat) (R : Nat → List Nat) (d : Int) (r s : Int) : Prop := (r = -1 ∧ s = -1 ∧ ∀ u, u < V → ∀ x, x ∈ R u → (x : Int) ≠ d) ∨ ∃ u i : Nat, u < V ∧ r = (u : Int) ∧ s = (i : Int) ∧ ∃ x, (R u)[i]? = some x ∧ (x : Int) = d

set_option maxRecDepth 100000 in
set_option maxHeartbeats 2000000 in
theorem rfind_ok (v : Value) (E V : Nat) (R : Nat → List Nat) (d : Int) (w : World) (hv : RT w v E V R) (hV : V ≤ 1000) (hl : ∀ u, u < V → (R u).length ≤ 1000) :
    Calls Tryz.prog 61 #[v, .int .i64 d] w fun e w' => ∃ r s, e = .returned (.tuple #[.int .i64 r, .int .i64 s]) ∧ At V R d r s ∧ Below w.heap.size w w' := by
  obtain ⟨lv, rfl, hr⟩ := hv
  have hr1 := hid (hr.below (balloc w (.cells #[.int .i64 (E : Int), lv] 76)))
  obtain ⟨c0, c1⟩ := two_new w (.int .i64 (E : Int)) lv 76
  have hb := hid (balloc w (.cells #[.int .i64 (E : Int), lv] 76))
  obtain ⟨ad, cap, rfl, hcap, ⟨hcap2, _⟩, hro⟩ := hr1.out
  replace hro := hid hro
  clear hr hr1
  obtain ⟨w1, hw1⟩ : ∃ w1, w.alloc (.cells #[.int .i64 (E : Int), .slice ad V cap] 76) = w1 := ⟨_, rfl⟩
  rw [hw1] at c0 c1 hb hro
  go_enter Tryz.func61, Tryz.ntmps61
  go_wp2_with fail
  try rw [hw1]
  clear hw1
  go_loop [6, 7] (fun s6 _ => ∃ u : Nat, u ≤ V ∧ s6 = .int .i64 (u : Int) ∧ Hid (∀ k, k < u → ∀ x, x ∈ R k → (x : Int) ≠ d)) (fun s6 _ => V - (intOf s6).toNat)
  case atStart => exact ⟨0, by omega, by go_num, fun k hk => by omega⟩
  case round =>
    obtain ⟨u, hu, rfl, hno⟩ := hrel
    rcases Nat.lt_or_ge u V with hlt | hge
    · obtain ⟨b, o, x, rfl, cx, hx⟩ := hro.out u hlt
      have hlu := hl u hlt
      obtain ⟨ad2, n2, cap2, rfl, hn2, hc2, hc3, hcell⟩ := hx
      rw [hn2] at hlu
      replace hcell := hid hcell
      replace hn2 := hid hn2
      have i1 : (0 : Int) ≤ (u : Int) := by omega
      have i2 : (u : Int) < (V : Int) := by omega
      go_wp2_with fail
      go_loop [7] (fun s7 => ∃ i : Nat, i ≤ n2 ∧ s7 = .int .i64 (i : Int) ∧ Hid (∀ k, k < i → ∀ x, (R u)[k]? = some x → (x : Int) ≠ d)) (fun s7 => n2 - (intOf s7).toNat)
      case atStart => exact ⟨0, by omega, by go_num, fun k hk => by omega⟩
      case round =>
        obtain ⟨i, hi, rfl, hin⟩ := hrel
        rcases Nat.lt_or_ge i n2 with hilt | hige
        · obtain ⟨y, hy⟩ : ∃ y, (R u)[i]? = some y := ⟨_, List.getElem?_eq_getElem (by rw [hn2.out]; exact hilt)⟩
          obtain ⟨b2, o2, rfl, cy⟩ := hcell.out i y hy
          have i3 : (0 : Int) ≤ (i : Int) := by omega
          have i4 : (i : Int) < (n2 : Int) := by omega
          by_cases hyd : (y : Int) = d
          · have t1 : ((y : Int) == d) = true := by simp [hyd]
            have fin : Hid (At V R d (u : Int) (i : Int)) := .inr ⟨u, i, hlt, rfl, rfl, y, hy, hyd⟩
            subst hyd
            clear hy hin hno
            go_wp2_with fail
            go_ret2
            exact ⟨_, _, rfl, fin.out, hb.out⟩
          · have t1 : ((y : Int) == d) = false := by simpa using hyd
            have hnext : Hid (∀ k, k < i + 1 → ∀ x, (R u)[k]? = some x → (x : Int) ≠ d) := fun k hk x hx => by
              by_cases e : k = i
              · subst e; rw [hy] at hx; cases hx; exact hyd
              · exact hin.out k (by omega) x hx
            clear hy hin
            go_wp2_with fail
            go_round
            case rel => exact ⟨i + 1, by omega, by go_num, hnext⟩
            case measure => simp [intOf]; omega
        · obtain rfl : i = n2 := by omega
          have hnext : Hid (∀ k, k < u + 1 → ∀ x, x ∈ R k → (x : Int) ≠ d) := fun k hk x hx => by
            by_cases e : k = u
            · subst e
              obtain ⟨q, hq⟩ := List.getElem?_of_mem hx
              exact hin.out q (by have := (List.getElem?_eq_some_iff.1 hq).1; rw [← hn2.out]; exact this) x hq
            · exact hno.out k (by omega) x hx
          clear hin hno
          go_wp2_with fail
          go_round
          case rel => exact ⟨u + 1, by omega, by go_num, hnext⟩
          case measure => simp [intOf]; omega
    · obtain rfl : u = V := by omega
      go_wp2_with fail
      go_ret2
      exact ⟨_, _, rfl, .inl ⟨rfl, rfl, hno.out⟩, hb.out⟩

end Go.Proofs.YtboafgimjadboaaGreatDoor

namespace Go.Proofs.YtboafgimjadboaaGreatDoor
open Go.RowKit
set_option linter.unusedVariables false

/-- There is such a corner. -/
def Co (V : Nat) (R : Nat → List Nat) (v b : Int) : Prop := ∃ u : Nat, v = (u : Int) ∧ u < V ∧ ((b = -1 ∧ R u = []) ∨ ∃ d : Nat, b = (d : Int) ∧ d ∈ R u)

theorem At.found {V E : Nat} {R : Nat → List Nat} (h : Tn V E R) {u d : Nat} (hu : u < V) (hd : d ∈ R u) {r s : Int} (ha : At V R (d : Int) r s) : r = (u : Int) ∧ ∃ i : Nat, s = (i : Int) ∧ (R u)[i]? = some d := by
  rcases ha with ⟨_, _, h3⟩ | ⟨u', i, hu', rfl, rfl, x, hx, e⟩
  · exact absurd rfl (h3 u hu d hd)
  · obtain rfl : x = d := by omega
    obtain rfl := h.one u' u x hu' hu (List.mem_of_getElem? hx) hd
    exact ⟨rfl, i, rfl, hx⟩

theorem At.none {V : Nat} {R : Nat → List Nat} {d : Int} (hd : ∀ u, u < V → ∀ x, x ∈ R u → (x : Int) ≠ d) {r s : Int} (ha : At V R d r s) : r = -1 ∧ s = -1 := by
  rcases ha with ⟨h1, h2, _⟩ | ⟨u', i, hu', _, _, x, hx, e⟩
  · exact ⟨h1, h2⟩
  · exact absurd e (hd u' hu' x (List.mem_of_getElem? hx))





end Go.Proofs.YtboafgimjadboaaGreatDoor

namespace Go.Proofs.YtboafgimjadboaaGreatDoor
open Go.RowKit
set_option linter.unusedVariables false

theorem below_row {w0 w w' : World} {B base n size : Nat} {e : TypeId} {v : Value} {xs : List Value} (hb : Below B w0 w) (hlo : B ≤ w0.heap.size) (ho : w.ownsRow base e size v n xs) (hB : B ≤ base) (hg : w.grownBy w' v.ownBlock) : Below B w0 w' :=
  hb.grown hg (Nat.le_trans hlo hb.size) (fun k hk => Nat.le_trans hB (ho.lt k hk).1)

theorem add_zero (b o j : Nat) : (⟨b, o, none⟩ : Addr).add j = ⟨b, o + j, none⟩ := by unfold Addr.add; split <;> simp_all

/-- The values that a slice of slices holds. -/
theorem NR.vals {w : World} {v : Value} {V : Nat} {R : Nat → List Nat} (h : NR w v V R) (hV : 0 < V) : ∃ b o cap, ∃ us : List Value, v = .slice (some ⟨b, o, none⟩) V cap ∧ V ≤ cap ∧ cap ≤ maxLen ∧ us.length = V ∧ (∀ (k : Nat) x, us[k]? = some x → w.cell? ⟨b, o + k, none⟩ = some x ∧ NL w x (R k)) := by
  obtain ⟨ad, cap, h1, h2, h3, h4⟩ := h
  obtain ⟨b, o, _, e0, _⟩ := h4 0 hV
  have hx : ∀ u, ∃ x, u < V → w.cell? ⟨b, o + u, none⟩ = some x ∧ NL w x (R u) := fun u => by
    by_cases hu : u < V
    · obtain ⟨b', o', x, e1, e2, e3⟩ := h4 u hu
      rw [e0] at e1
      simp only [Option.some.injEq, Addr.mk.injEq, and_true] at e1
      obtain ⟨rfl, rfl⟩ := e1
      exact ⟨x, fun _ => ⟨e2, e3⟩⟩
    · exact ⟨.nilIface, fun hu' => absurd hu' hu⟩
  obtain ⟨X, hX⟩ : ∃ X : Nat → Value, ∀ u, u < V → w.cell? ⟨b, o + u, none⟩ = some (X u) ∧ NL w (X u) (R u) := ⟨fun u => (hx u).choose, fun u => (hx u).choose_spec⟩
  refine ⟨b, o, cap, (List.range V).map X, by rw [h1, e0], h2, h3.1, by simp, fun k x hk => ?_⟩
  have hkV : k < V := by have := (List.getElem?_eq_some_iff.1 hk).1; simpa using this
  simp [hkV] at hk
  subst hk
  exact hX k hkV

theorem blk2 {w : World} {g : Nat} {t : TypeId} {x y : Value} (h : w.heap[g]? = some (.cells #[x, y] t (0, 0))) : w.cell? ⟨g, 0, none⟩ = some x ∧ w.cell? ⟨g, 1, none⟩ = some y ∧ w.frozen? ⟨g, 0, none⟩ = false ∧ w.frozen? ⟨g, 1, none⟩ = false := by
  unfold World.cell? World.frozen?
  rw [h]
  exact ⟨rfl, rfl, rfl, rfl⟩

theorem set2_block {w : World} {g : Nat} {t : TypeId} {u v : Value} (h : w.heap[g]? = some (.cells #[u, v] t (0, 0))) (a b : Value) : ((w.setCell ⟨g, 0, none⟩ a).setCell ⟨g, 1, none⟩ b).heap[g]? = some (.cells #[a, b] t (0, 0)) := by
  unfold World.setCell
  rw [Array.getElem?_modify, if_pos rfl, Array.getElem?_modify, if_pos rfl, h]
  simp

theorem below2 {B : Nat} {a w : World} {g : Nat} (h : Below B a w) (hg : B ≤ g) (x y : Value) : Below B a ((w.setCell ⟨g, 0, none⟩ x).setCell ⟨g, 1, none⟩ y) := by
  refine h.trans ⟨rfl, rfl, rfl, by simp [World.setCell], fun k hk => ?_⟩
  rw [Below.heap_setCell _ _ _ _ (by show k ≠ g; omega), Below.heap_setCell _ _ _ _ (by show k ≠ g; omega)]

theorem NL.one {w : World} {v : Value} {l : List Nat} (h : NL w v l) : v.oneCell' = true := by
  obtain ⟨ad, n, cap, rfl, _⟩ := h
  rfl

set_option maxRecDepth 100000 in
set_option maxHeartbeats 4000000 in
theorem rwith_ok (tv lv : Value) (E V u : Nat) (R : Nat → List Nat) (l : List Nat) (w : World) (hv : RT w tv E V R) (hl : NL w lv l) (hu : u < V) (hV : V ≤ 1000) :
    Calls Tryz.prog 62 #[tv, .int .i64 (u : Int), lv] w fun e w' => ∃ tv', e = .returned tv' ∧ RT w' tv' E V (upd R u l) ∧ Below w.heap.size w w' := by
  obtain ⟨i0, hif, hz0, hz1, hz2⟩ := info_parts infoInts
  obtain ⟨rv, rfl, hr⟩ := hv
  obtain ⟨b, o, cap, us, rfl, hc1, hc2, hlen, hcell⟩ := hr.vals (by omega)
  obtain ⟨la, ln, lc, rfl, hl2⟩ := hl
  have hlv : NL w (.slice la ln lc) l := ⟨la, ln, lc, rfl, hl2⟩
  obtain ⟨c0, c1⟩ := two_new w (.int .i64 (E : Int)) (.slice (some ⟨b, o, none⟩) V cap) 76
  have hb1 : Below w.heap.size w ((w.alloc (.cells #[.int .i64 (E : Int), .slice (some ⟨b, o, none⟩) V cap] 76)).alloc (.cells #[.int .i64 0, .slice none 0 0] 76)) := (balloc _ _).trans ((balloc _ _).mono (by simp))
  have d1 := ((balloc (w.alloc (.cells #[.int .i64 (E : Int), .slice (some ⟨b, o, none⟩) V cap] 76)) (.cells #[.int .i64 0, .slice none 0 0] 76)).cell (World.block_lt_of_cell? _ _ c0)).trans c0
  have d2 := ((balloc (w.alloc (.cells #[.int .i64 (E : Int), .slice (some ⟨b, o, none⟩) V cap] 76)) (.cells #[.int .i64 0, .slice none 0 0] 76)).cell (World.block_lt_of_cell? _ _ c1)).trans c1
  have hcs : ∀ (j : Nat) x, us[j]? = some x → ((w.alloc (.cells #[.int .i64 (E : Int), .slice (some ⟨b, o, none⟩) V cap] 76)).alloc (.cells #[.int .i64 0, .slice none 0 0] 76)).cell? ((⟨b, o, none⟩ : Addr).add j) = some x := fun j x hx => by
    rw [add_zero]
    have := (hcell j x hx).1
    exact (hb1.cell (World.block_lt_of_cell? w _ this)).trans this
  have hone : ∀ x ∈ us, x.oneCell' = true := fun x hx => by
    obtain ⟨k, hk⟩ := List.getElem?_of_mem hx
    exact (hcell k x hk).2.one
  replace hcell := hid (fun k x hk => (hcell k x hk).2)
  have i1 : (0 : Int) ≤ (u : Int) := by omega
  have i2 : (u : Int) < (V : Int) := by omega
  clear hl2
  go_enter Tryz.func62, Tryz.ntmps62
  go_wp2_with (at_builtin; refine wpList_append_own _ rfl (.tmp 8) (.tmp 10) 28 rfl (w.heap.size + 2) 55 i0 _ 1 24 Tryz.underlying28 hif hz0 hz1 hz2 rfl (by decide) _ _ _ rfl (World.ownsRow_nil _ _ _ _) ⟨b, o, none⟩ V cap us rfl (by rw [hlen]; omega) hcs hone (by unfold maxLen; omega) (by omega) (by simp) ?_; intro v' w' ho' hg' _; refine Hid.out ?_)
  replace hg' : World.grownBy _ w' none := hg'
  have ho2 : w'.ownsRow (w.heap.size + 2) 55 1 v' V us := by simpa using ho'
  have hbA : Below w.heap.size w w' := hb1.grown hg' (by simp; omega) (fun k hk => by cases hk)
  obtain ⟨g2, c2, rfl, hg2c, hg2m⟩ := own_form ho2 (by omega)
  have hg2 : w.heap.size + 2 ≤ g2 := (ho2.lt g2 rfl).1
  obtain ⟨xu, hxu⟩ : ∃ x, us[u]? = some x := ⟨_, List.getElem?_eq_getElem (by omega)⟩
  have k1 : w'.cell? ⟨g2, u, none⟩ = some xu := (ho2.cellAt u (by omega)).trans hxu
  have k2 : w'.frozen? ⟨g2, u, none⟩ = false := ho2.frozenAt u
  obtain ⟨s1, s2⟩ := ho2.stored u (.slice la ln lc)
  replace s2 : World.grownBy w' _ (some g2) := s2
  have e1 := hg'.cell d1 (by simp)
  have hres : w'.heap[w.heap.size + 1]? = some (.cells #[.int .i64 0, .slice none 0 0] 76) := by
    have h0 := heap_alloc_new (w.alloc (.cells #[.int .i64 (E : Int), .slice (some ⟨b, o, none⟩) V cap] 76)) (.cells #[.int .i64 0, .slice none 0 0] 76)
    simp only [World.size_alloc] at h0
    exact (hg'.block (w.heap.size + 1) (by simp) (by simp)).trans h0
  have e2 : (w'.setCell ⟨g2, u, none⟩ (.slice la ln lc)).cell? ⟨w.heap.size, 0, none⟩ = some (.int .i64 (E : Int)) := s2.cell e1 (fun e => by have := Option.some.inj e; simp only [] at this; omega)
  have hres2 : (w'.setCell ⟨g2, u, none⟩ (.slice la ln lc)).heap[w.heap.size + 1]? = some (.cells #[.int .i64 0, .slice none 0 0] 76) := (s2.block (w.heap.size + 1) (Array.getElem?_eq_some_iff.1 hres).1 (fun e => by have := Option.some.inj e; omega)).trans hres
  have bF : Hid (Below w.heap.size w (w'.setCell ⟨g2, u, none⟩ (.slice la ln lc))) := hbA.grown s2 (Nat.le_trans (Nat.le_refl _) hbA.size) (fun k hk => by have := Option.some.inj hk; omega)
  have hrow : Hid ((w'.setCell ⟨g2, u, none⟩ (.slice la ln lc)).ownsRow (w.heap.size + 2) 55 1 (.slice (some ⟨g2, 0, none⟩) V c2) V (us.set u (.slice la ln lc))) := s1
  clear ho' hg' ho2 s1 s2 e1 hres hbA hcs d1 d2 c0 c1 hb1
  obtain ⟨w2, hw2⟩ : ∃ w2, w'.setCell ⟨g2, u, none⟩ (.slice la ln lc) = w2 := ⟨_, rfl⟩
  rw [hw2] at e2 hres2 bF hrow
  obtain ⟨f1, f2, f3, f4⟩ := blk2 hres2
  have hfin := hid (set2_block hres2 (.int .i64 (E : Int)) (.slice (some ⟨g2, 0, none⟩) V c2))
  have bG := hid (below2 bF.out (show w.heap.size ≤ w.heap.size + 1 from Nat.le_succ _) (.int .i64 (E : Int)) (.slice (some ⟨g2, 0, none⟩) V c2))
  have hrow2 : Hid (((w2.setCell ⟨w.heap.size + 1, 0, none⟩ (.int .i64 (E : Int))).setCell ⟨w.heap.size + 1, 1, none⟩ (.slice (some ⟨g2, 0, none⟩) V c2)).ownsRow (w.heap.size + 2) 55 1 (.slice (some ⟨g2, 0, none⟩) V c2) V (us.set u (.slice la ln lc))) := by
    refine ⟨hrow.out.1, ?_⟩
    rcases hrow.out.2 with h | ⟨g, cap, cur, e, h1, h2, h3⟩
    · exact .inl h
    · refine .inr ⟨g, cap, cur, e, h1, ?_, h3⟩
      rw [Below.heap_setCell _ _ _ _ (by show g ≠ w.heap.size + 1; omega), Below.heap_setCell _ _ _ _ (by show g ≠ w.heap.size + 1; omega)]
      exact h2
  clear hres2 hrow bF
  refine hid ?_
  go_wp2_with fail
  refine bodyPost_ret (results_cell_row rfl _ _ (w.heap.size + 1) 76 _ (0, 0) _ rfl hfin.out Tryz.underlying76 rfl (by kernel_rfl)) rfl ?_
  refine ⟨_, rfl, ⟨_, rfl, ?_⟩, bG.out⟩
  refine ⟨_, c2, rfl, hg2c, ⟨hg2m, fun a e => ⟨g2, 0, (Option.some.inj e).symm, row_ty hrow2.out rfl⟩⟩, fun k hk => ?_⟩
  obtain ⟨y, hy⟩ : ∃ y, (us.set u (.slice la ln lc))[k]? = some y := ⟨_, List.getElem?_eq_getElem (by rw [List.length_set]; omega)⟩
  refine ⟨g2, 0, y, rfl, by rw [Nat.zero_add, hrow2.out.cellAt k (by omega)]; exact hy, ?_⟩
  rw [List.getElem?_set] at hy
  by_cases e : u = k
  · subst e
    rw [if_pos rfl, if_pos (by omega)] at hy
    cases hy
    rw [upd_same]
    exact hlv.below bG.out
  · rw [if_neg e] at hy
    rw [upd_ne (Ne.symm e)]
    exact (hcell.out k y hy).below bG.out

end Go.Proofs.YtboafgimjadboaaGreatDoor

namespace Go.Proofs.YtboafgimjadboaaGreatDoor
open Go.RowKit
set_option linter.unusedVariables false

theorem pv_at {l : List Nat} {x i : Nat} (hn : l.Nodup) (hi : l[i]? = some x) : l[(i + l.length - 1) % l.length]? = some (pv l x) := by
  obtain ⟨hlt, hxe⟩ := List.getElem?_eq_some_iff.1 hi
  have hk : (i + l.length - 1) % l.length < l.length := Nat.mod_lt _ (by omega)
  have hy : l[(i + l.length - 1) % l.length]? = some l[(i + l.length - 1) % l.length] := List.getElem?_eq_getElem hk
  have := nx_at hn hy
  rw [Nat.mod_add_mod, show i + l.length - 1 + 1 = i + l.length from by omega, Nat.add_mod_right, Nat.mod_eq_of_lt hlt, hi] at this
  rw [hy, Option.some.inj this, pv_nx hn (List.mem_of_getElem? hy)]

/-- So many steps on, by places: what the document reckons. -/
theorem step_at (n i : Nat) (by' : Int) (hn : 0 < n) (hi : i < n) (hb : by' = 1 ∨ by' = -1) (hs : n ≤ 1000) : ∃ k : Nat, k < n ∧ (IntKind.i64.wrap (IntKind.i64.wrap ((i : Int) + by') + (n : Int))).tmod (n : Int) = (k : Int) ∧ (by' = 1 → k = (i + 1) % n) ∧ (by' = -1 → k = (i + n - 1) % n) := by
  have w1 : IntKind.i64.wrap ((i : Int) + by') = (i : Int) + by' := by rw [IntKind.wrap_i64]; omega
  have w2 : IntKind.i64.wrap ((i : Int) + by' + (n : Int)) = (i : Int) + by' + (n : Int) := by rw [IntKind.wrap_i64]; omega
  rw [w1, w2, Int.tmod_eq_emod_of_nonneg (by omega)]
  rcases hb with rfl | rfl
  · refine ⟨(i + 1) % n, Nat.mod_lt _ hn, ?_, fun _ => rfl, fun h => by omega⟩
    rw [show (i : Int) + 1 + (n : Int) = ((i + 1 + n : Nat) : Int) from by omega, ← Int.natCast_emod, Nat.add_mod_right]
  · refine ⟨(i + n - 1) % n, Nat.mod_lt _ hn, ?_, fun h => by omega, fun _ => rfl⟩
    rw [show (i : Int) + -1 + (n : Int) = ((i + n - 1 : Nat) : Int) from by omega, ← Int.natCast_emod]

set_option maxRecDepth 100000 in
set_option maxHeartbeats 4000000 in
theorem rnext_ok (tv : Value) (E V u d z : Nat) (R : Nat → List Nat) (by' : Int) (w : World) (hv : RT w tv E V R) (ht : Tn V E R) (hu : u < V) (hd : d ∈ R u) (hb : by' = 1 ∨ by' = -1) (hz1 : by' = 1 → nx (R u) d = z) (hz2 : by' = -1 → pv (R u) d = z) (hV : V ≤ 1000) (hl : ∀ u, u < V → (R u).length ≤ 1000) :
    Calls Tryz.prog 143 #[tv, .int .i64 (d : Int), .int .i64 by'] w fun e w' => e = .returned (.int .i64 (z : Int)) ∧ Below w.heap.size w w' := by
  have hf := hid (fun y (hy : Below w.heap.size w y) => rfind_ok tv E V R (d : Int) y (hv.below hy) hV hl)
  obtain ⟨lv, rfl, hr⟩ := hv
  obtain ⟨c0, c1⟩ := two_new w (.int .i64 (E : Int)) lv 76
  have hbb := hid (balloc w (.cells #[.int .i64 (E : Int), lv] 76))
  have hr1 := hr.below hbb.out
  obtain ⟨ad, cap, rfl, hcap, ⟨hcap2, _⟩, hro⟩ := hr1
  obtain ⟨b1, o1, x, rfl, cx, hx⟩ := hro u hu
  obtain ⟨ad2, n2, cap2, rfl, hn2, _, _, hcell⟩ := hx
  obtain ⟨w1, hw1⟩ : ∃ w1, w.alloc (.cells #[.int .i64 (E : Int), .slice (some ⟨b1, o1, none⟩) V cap] 76) = w1 := ⟨_, rfl⟩
  rw [hw1] at c0 c1 hbb cx hcell
  have hlu := hl u hu
  rw [hn2] at hlu
  have hnd := ht.nd u hu
  replace ht := hid ht
  clear hr hro hl
  go_enter Tryz.func143, Tryz.ntmps143
  go_wp2_with fail
  try rw [hw1]
  refine (hf.out w1 hbb.out).mono ?_
  rintro e w2 ⟨r, s, rfl, hat, b2⟩
  obtain ⟨rfl, i, rfl, hi⟩ := At.found ht.out hu hd hat
  have hilt : i < n2 := by have := (List.getElem?_eq_some_iff.1 hi).1; omega
  obtain ⟨k, hk, hmod, hk1, hk2⟩ := step_at n2 i by' (by omega) hilt hb hlu
  obtain ⟨y, hy⟩ : ∃ y, (R u)[k]? = some y := ⟨_, List.getElem?_eq_getElem (by omega)⟩
  have hyis : Hid (z = y) := hid (by
    rcases hb with rfl | rfl
    · have := nx_at hnd hi
      rw [hn2, ← hk1 rfl, hy] at this
      rw [← hz1 rfl]
      exact (Option.some.inj this).symm
    · have := pv_at hnd hi
      rw [hn2, ← hk2 rfl, hy] at this
      rw [← hz2 rfl]
      exact (Option.some.inj this).symm)
  obtain ⟨b3, o3, rfl, cy⟩ := hcell k y hy
  have up : ∀ {a : Addr} {x : Value}, w1.cell? a = some x → w2.cell? a = some x := fun hc => (b2.cell (World.block_lt_of_cell? _ _ hc)).trans hc
  have e0 := up c0
  have e1 := up c1
  have ex := up cx
  have ey := up cy
  have hb2 : Hid (Below w.heap.size w w2) := hbb.out.trans (b2.mono hbb.out.size)
  have i1 : (0 : Int) ≤ (u : Int) := by omega
  have i2 : (u : Int) < (V : Int) := by omega
  have i3 : (0 : Int) ≤ (k : Int) := by omega
  have i4 : (k : Int) < (n2 : Int) := by omega
  have z1 : ¬ (n2 = 0) := by omega
  have z2 : ¬ ((n2 : Int) = 0) := by omega
  replace hn2 := hid hn2
  clear hat hi hcell up c0 c1 cx cy b2 hy hk1 hk2 hb hd hf hz1 hz2
  go_wp2_with fail
  go_quiet (fail)
  go_wp2_with fail
  go_ret
  exact ⟨by rw [hyis.out]; rfl, belowN hb2.out _⟩

end Go.Proofs.YtboafgimjadboaaGreatDoor

namespace Go.Proofs.YtboafgimjadboaaGreatDoor
open Go.RowKit
set_option linter.unusedVariables false

/-- Numbers as cells. -/
def ncs (l : List Nat) : List Value := l.map (fun i : Nat => .int .i64 (i : Int))
@[simp] theorem ncs_length (l : List Nat) : (ncs l).length = l.length := by simp [ncs]
theorem ncs_append (a b : List Nat) : ncs (a ++ b) = ncs a ++ ncs b := by simp [ncs]

/-- A row of one's own is to be read. -/
theorem nl_of {base : Nat} {w : World} {v : Value} {l : List Nat} (h : w.ownsRow base 3 1 v l.length (ncs l)) : NL w v l := by
  rcases h.2 with ⟨rfl, h0⟩ | ⟨g, cap, cur, rfl, _, hg, h1, h2, _⟩
  · have : l = [] := List.eq_nil_of_length_eq_zero h0
    subst this
    exact ⟨none, 0, 0, rfl, rfl, ⟨Nat.le_refl _, fun _ => rfl, fun a e => by cases e⟩, Nat.zero_le _, fun j x hx => by simp at hx⟩
  · refine ⟨some ⟨g, 0, none⟩, l.length, cap, rfl, rfl, ⟨h1, (fun e => by cases e), fun a e => ⟨g, 0, (Option.some.inj e).symm, _, _, hg⟩⟩, h2, fun j x hx => ⟨g, 0, rfl, ?_⟩⟩
    have hj := (List.getElem?_eq_some_iff.1 hx).1
    rw [Nat.zero_add, h.cellAt j (by omega)]
    simp [ncs, hx]

theorem one_new (w : World) (u : Value) (t : TypeId) : ∀ j x, ([u] : List Value)[j]? = some x → (w.alloc (.cells #[u] t)).cell? ((⟨w.heap.size, 0, none⟩ : Addr).add j) = some x := by
  intro j x hx
  rw [add_zero, Nat.zero_add]
  have hn := heap_alloc_new w (.cells #[u] t)
  unfold World.cell?
  rw [hn]
  simpa using hx

/-- The least of the first ones. -/
def Lo (l : List Nat) (j a : Nat) : Prop := (j = 0 ∧ a = 0) ∨ ∃ x, a < j ∧ l[a]? = some x ∧ ∀ (k y : Nat), k < j → l[k]? = some y → x ≤ y

end Go.Proofs.YtboafgimjadboaaGreatDoor

namespace Go.Proofs.YtboafgimjadboaaGreatDoor
open Go.RowKit
set_option linter.unusedVariables false

open Classical in
/-- The darts below k that stand. -/
noncomputable def laid (V : Nat) (R : Nat → List Nat) : Nat → List Nat
  | 0 => []
  | k + 1 => laid V R k ++ (if In V R k then [k] else [])

theorem laid_yes {V : Nat} {R : Nat → List Nat} {k : Nat} (h : In V R k) : laid V R (k + 1) = laid V R k ++ [k] := by rw [laid, if_pos h]
theorem laid_no {V : Nat} {R : Nat → List Nat} {k : Nat} (h : ¬ In V R k) : laid V R (k + 1) = laid V R k := by rw [laid, if_neg h, List.append_nil]
theorem laid_len (V : Nat) (R : Nat → List Nat) : ∀ k, (laid V R k).length ≤ k
  | 0 => by simp [laid]
  | k + 1 => by
    by_cases h : In V R k
    · rw [laid_yes h]; have := laid_len V R k; simp; omega
    · rw [laid_no h]; have := laid_len V R k; omega
theorem mem_laid {V : Nat} {R : Nat → List Nat} : ∀ {k x : Nat}, x ∈ laid V R k ↔ x < k ∧ In V R x
  | 0, x => by simp [laid]
  | k + 1, x => by
    by_cases h : In V R k
    · rw [laid_yes h, List.mem_append, mem_laid, List.mem_singleton]
      constructor
      · rintro (⟨h1, h2⟩ | rfl)
        · exact ⟨by omega, h2⟩
        · exact ⟨by omega, h⟩
      · rintro ⟨h1, h2⟩
        by_cases e : x = k
        · exact .inr e
        · exact .inl ⟨by omega, h2⟩
    · rw [laid_no h, mem_laid]
      constructor
      · rintro ⟨h1, h2⟩; exact ⟨by omega, h2⟩
      · rintro ⟨h1, h2⟩
        refine ⟨?_, h2⟩
        by_cases e : x = k
        · subst e; exact absurd h2 h
        · omega

theorem At.in {V : Nat} {R : Nat → List Nat} {d : Nat} {r s : Int} (h : At V R (d : Int) r s) : (0 ≤ r ∧ In V R d) ∨ (r = -1 ∧ ¬ In V R d) := by
  rcases h with ⟨h1, _, h3⟩ | ⟨u, i, h1, h2, _, x, h4, h5⟩
  · exact .inr ⟨h1, fun ⟨v, h4, h5⟩ => h3 v h4 d h5 rfl⟩
  · refine .inl ⟨by omega, u, h1, ?_⟩
    have : x = d := by omega
    subst this
    exact List.mem_of_getElem? h4

/-- Below: the row stays. -/
theorem ownsRow_below {w w' : World} {base e size n : Nat} {v : Value} {xs : List Value} (h : w.ownsRow base e size v n xs) (hb : Below w.heap.size w w') : w'.ownsRow base e size v n xs := by
  refine ⟨h.1, ?_⟩
  rcases h.2 with h2 | ⟨g, cap, cur, hv, hg, hh, r⟩
  · exact .inl h2
  · refine .inr ⟨g, cap, cur, hv, hg, ?_, r⟩
    rw [hb.block g (Array.getElem?_eq_some_iff.1 hh).1]
    exact hh

set_option maxRecDepth 100000 in
set_option maxHeartbeats 4000000 in
theorem rdarts_ok (tv : Value) (E V : Nat) (R : Nat → List Nat) (w : World) (hv : RT w tv E V R) (hE : E ≤ 1000) (hV : V ≤ 1000) (hl : ∀ u, u < V → (R u).length ≤ 1000) :
    Calls Tryz.prog 63 #[tv] w fun e w' => ∃ rv, e = .returned rv ∧ NL w' rv (laid V R (2 * E)) ∧ Below w.heap.size w w' := by
  obtain ⟨j0, hjf, hy0, hy1, hy2⟩ := info_parts infoInt
  have hf := hid (fun (d : Nat) y (hy : Below w.heap.size w y) => rfind_ok tv E V R (d : Int) y (hv.below hy) hV hl)
  obtain ⟨lv, rfl, hr⟩ := hv
  obtain ⟨c0, c1⟩ := two_new w (.int .i64 (E : Int)) lv 76
  have hbb := hid (balloc w (.cells #[.int .i64 (E : Int), lv] 76))
  obtain ⟨w1, hw1⟩ : ∃ w1, w.alloc (.cells #[.int .i64 (E : Int), lv] 76) = w1 := ⟨_, rfl⟩
  rw [hw1] at c0 c1 hbb
  replace c0 := hid c0
  replace c1 := hid c1
  clear hr
  go_enter Tryz.func63, Tryz.ntmps63
  go_wp2_with fail
  try rw [hw1]
  clear hw1
  go_loopw [3, 4] (fun s3 s4 wr => ∃ k : Nat, k ≤ 2 * E ∧ s4 = .int .i64 (k : Int) ∧ Hid (∃ m, m = (laid V R k).length ∧ wr.ownsRow w1.heap.size 3 1 s3 m (ncs (laid V R k)) ∧ Below w1.heap.size w1 wr))
    (fun _ s4 _ => 2 * E - (intOf s4).toNat)
  case atStart => exact ⟨0, by omega, by go_num, 0, rfl, World.ownsRow_nil _ _ _ _, Below.refl _ _⟩
  case round =>
    obtain ⟨k, hk, rfl, hst⟩ := hrel
    obtain ⟨m, hm, hown, hbw⟩ := hst.out
    have hlm := laid_len V R k
    rw [← hm] at hlm
    replace hm := hid hm
    have e0 := (hbw.cell (World.block_lt_of_cell? _ _ c0.out)).trans c0.out
    have e1 := (hbw.cell (World.block_lt_of_cell? _ _ c1.out)).trans c1.out
    clear hst
    rcases Nat.lt_or_ge k (2 * E) with hlt | hge
    · have t1 : decide ((k : Int) < 2 * (E : Int)) = true := decide_eq_true (by omega)
      go_wp2_with fail
      refine (hf.out k wr (hbb.out.trans (hbw.mono hbb.out.size))).mono ?_
      rintro e w2 ⟨r, s, rfl, hat, b2⟩
      rcases hat.in with ⟨hr0, hin⟩ | ⟨rfl, hin⟩
      · have t2 : decide (r ≥ 0) = true := decide_eq_true hr0
        have hown2 := ownsRow_below hown b2
        have hbw2 := hbw.trans (b2.mono hbw.size)
        have hsz := hbw2.size
        clear hown hbw e0 e1 b2 hat
        have hsm : m ≤ 2000 := by omega
        go_wp2_with (at_builtin; refine wpList_append_own _ rfl (.tmp 22) (.tmp 24) 55 rfl w1.heap.size 3 j0 _ 1 8 Tryz.underlying55 hjf hy0 hy1 hy2 rfl (by decide) _ _ _ rfl (hown2.alloc _) ⟨w2.heap.size, 0, none⟩ 1 1 [.int .i64 (k : Int)] rfl rfl (one_new w2 _ _) (by simp [Value.oneCell']) (by unfold maxLen; omega) (by omega) (by simp; omega) ?_; intro v' w' ho' hg' _)
        have hnew : Hid (w'.ownsRow w1.heap.size 3 1 v' (m + 1) (ncs (laid V R (k + 1))) ∧ Below w1.heap.size w1 w') :=
          ⟨by rw [laid_yes hin, ncs_append]; exact ho', below_row (hbw2.alloc hsz _) (Nat.le_refl _) (hown2.alloc _) (Nat.le_refl _) hg'⟩
        clear ho' hg'
        go_wp2_with fail
        go_roundw
        case rel => exact ⟨k + 1, by omega, by go_num, m + 1, by rw [laid_yes hin, hm.out]; simp, hnew.out⟩
        case measure => simp [intOf]; omega
      · have hnew : Hid (w2.ownsRow w1.heap.size 3 1 u3 m (ncs (laid V R (k + 1))) ∧ Below w1.heap.size w1 w2) := by
          rw [laid_no hin]
          exact hid ⟨ownsRow_below hown b2, hbw.trans (b2.mono hbw.size)⟩
        clear hown hbw e0 e1 b2 hat
        go_wp2_with fail
        go_roundw
        case rel => exact ⟨k + 1, by omega, by go_num, m, by rw [laid_no hin]; exact hm.out, hnew.out⟩
        case measure => simp [intOf]; omega
    · obtain rfl : k = 2 * E := by omega
      have t1 : decide (((2 * E : Nat) : Int) < 2 * (E : Int)) = false := decide_eq_false (by omega)
      have hfin : Hid (NL wr u3 (laid V R (2 * E))) := hid (nl_of (base := w1.heap.size) (by rw [← hm.out]; exact hown))
      have hb : Hid (Below w.heap.size w wr) := hbb.out.trans (hbw.mono hbb.out.size)
      clear hown hbw
      go_wp2_with fail
      go_ret
      exact ⟨_, rfl, hfin.out, hb.out⟩

end Go.Proofs.YtboafgimjadboaaGreatDoor
