/- The document's Round, walked. -/
import Derived.Test.YtdlggnibgnflnaaDoorNext10
namespace Go.Proofs.YtdlggnibgnflnaaDoor
open Go.RowKit
set_option linter.unusedVariables false

/-- Numbers as cells. -/
def ncs (l : List Nat) : List Value := l.map (fun i : Nat => .int .i64 (i : Int))
@[simp] theorem ncs_length (l : List Nat) : (ncs l).length = l.length := by simp [ncs]
theorem ncs_append (a b : List Nat) : ncs (a ++ b) = ncs a ++ ncs b := by simp [ncs]

/-- A row of one's own is to be read. -/
theorem nl_of {base : Nat} {w : World} {v : Value} {l : List Nat} (h : w.ownsRow base 3 1 v l.length (ncs l)) : NL w v l := by
  rcases h.2 with ⟨rfl, h0⟩ | ⟨g, cap, cur, rfl, _, hg, h1, h2, _⟩
  · have : l = [] := List.eq_nil_of_length_eq_zero h0
    subst this
    exact ⟨none, 0, 0, rfl, rfl, ⟨Nat.le_refl _, fun _ => rfl, fun a e => by cases e⟩, Nat.zero_le _, fun j x hx => by simp at hx⟩
  · refine ⟨some ⟨g, 0, none⟩, l.length, cap, rfl, rfl, ⟨h1, (fun e => by cases e), fun a e => ⟨g, 0, (Option.some.inj e).symm, _, _, hg⟩⟩, h2, fun j x hx => ⟨g, 0, rfl, ?_⟩⟩
    have hj := (List.getElem?_eq_some_iff.1 hx).1
    rw [Nat.zero_add, h.cellAt j (by omega)]
    simp [ncs, hx]

theorem one_new (w : World) (u : Value) (t : TypeId) : ∀ j x, ([u] : List Value)[j]? = some x → (w.alloc (.cells #[u] t)).cell? ((⟨w.heap.size, 0, none⟩ : Addr).add j) = some x := by
  intro j x hx
  rw [add_zero, Nat.zero_add]
  have hn := heap_alloc_new w (.cells #[u] t)
  unfold World.cell?
  rw [hn]
  simpa using hx

/-- The least of the first ones. -/
def Lo (l : List Nat) (j a : Nat) : Prop := (j = 0 ∧ a = 0) ∨ ∃ x, a < j ∧ l[a]? = some x ∧ ∀ (k y : Nat), k < j → l[k]? = some y → x ≤ y

theorem Lo.least {l : List Nat} {a : Nat} (h : Lo l l.length a) (hne : l ≠ []) : l[a]? = some (least0 l) := by
  rcases h with ⟨h0, _⟩ | ⟨x, h1, h2, h3⟩
  · exact absurd (List.eq_nil_of_length_eq_zero h0) hne
  · obtain ⟨k, hk⟩ := List.getElem?_of_mem (least0_mem l hne)
    have q1 := h3 k _ (List.getElem?_eq_some_iff.1 hk).1 hk
    have q2 := least0_le l x (List.mem_of_getElem? h2)
    rw [h2]
    congr 1
    omega

set_option maxRecDepth 100000 in
set_option maxHeartbeats 4000000 in
theorem rround_ok (tv : Value) (E V u : Nat) (R : Nat → List Nat) (w : World) (hv : RT w tv E V R) (hnd : (R u).Nodup) (hu : u < V) (hl : (R u).length ≤ 1000) :
    Calls Tryd.prog 34 #[tv, .int .i64 (u : Int)] w fun e w' => ∃ rv, e = .returned rv ∧ NL w' rv (lf (R u)) ∧ Below w.heap.size w w' := by
  obtain ⟨j0, hjf, hy0, hy1, hy2⟩ := info_parts infoInt
  obtain ⟨lv, rfl, hr⟩ := hv
  obtain ⟨c0, c1⟩ := two_new w (.int .i64 (E : Int)) lv 31
  have hbb := hid (balloc w (.cells #[.int .i64 (E : Int), lv] 31))
  obtain ⟨ad, cap, rfl, hcap, ⟨hcap2, _⟩, hro⟩ := hr
  obtain ⟨b1, o1, x, rfl, cx0, hx0⟩ := hro u hu
  have cx := (hbb.out.cell (World.block_lt_of_cell? _ _ cx0)).trans cx0
  have hx := hx0.below hbb.out
  replace hx0 := hid hx0
  obtain ⟨w1, hw1⟩ : ∃ w1, w.alloc (.cells #[.int .i64 (E : Int), .slice (some ⟨b1, o1, none⟩) V cap] 31) = w1 := ⟨_, rfl⟩
  rw [hw1] at c0 c1 hbb cx hx
  obtain ⟨ad2, n2, cap2, rfl, hn2, _, _, hcell⟩ := hx
  obtain ⟨l, hL⟩ : ∃ l, l = R u := ⟨_, rfl⟩
  rw [← hL] at hn2 hcell hnd hl hx0 ⊢
  rw [hn2] at hl
  replace hn2 := hid hn2
  replace hcell := hid hcell
  replace hnd := hid hnd
  have i1 : (0 : Int) ≤ (u : Int) := by omega
  have i2 : (u : Int) < (V : Int) := by omega
  clear hro hL cx0
  go_enter Tryd.func34, Tryd.ntmps34
  go_wp2_with fail
  try rw [hw1]
  clear hw1 c0 c1 cx
  go_loopw [6, 7] (fun s6 s7 wr => ∃ j a : Nat, j ≤ n2 ∧ a ≤ j ∧ s7 = .int .i64 (j : Int) ∧ s6 = .int .i64 (a : Int) ∧ Hid (Lo l j a ∧ Below w1.heap.size w1 wr))
    (fun _ s7 _ => n2 - (intOf s7).toNat)
  case atStart => exact ⟨0, 0, by omega, by omega, by go_num, by go_num, .inl ⟨rfl, rfl⟩, Below.refl _ _⟩
  case round =>
    obtain ⟨j, a, hj, haj, rfl, rfl, hst⟩ := hrel
    rcases Nat.lt_or_ge j n2 with hlt | hge
    · obtain ⟨y, hy⟩ : ∃ y, l[j]? = some y := ⟨_, List.getElem?_eq_getElem (by rw [hn2.out]; exact hlt)⟩
      obtain ⟨z, hz⟩ : ∃ z, l[a]? = some z := ⟨_, List.getElem?_eq_getElem (by rw [hn2.out]; omega)⟩
      obtain ⟨b2, o2, rfl, cy⟩ := hcell.out j y hy
      obtain ⟨b3, o3, e3, cz⟩ := hcell.out a z hz
      simp only [Option.some.injEq, Addr.mk.injEq, and_true] at e3
      obtain ⟨rfl, rfl⟩ := e3
      have ey := (hst.out.2.cell (World.block_lt_of_cell? _ _ cy)).trans cy
      have ez := (hst.out.2.cell (World.block_lt_of_cell? _ _ cz)).trans cz
      have hb := hid hst.out.2
      have i3 : (0 : Int) ≤ (j : Int) := by omega
      have i4 : (j : Int) < (n2 : Int) := by omega
      have i5 : (0 : Int) ≤ (a : Int) := by omega
      have i6 : (a : Int) < (n2 : Int) := by omega
      by_cases hyz : y < z
      · have t1 : decide ((y : Int) < (z : Int)) = true := decide_eq_true (by omega)
        have t2 : decide (y < z) = true := decide_eq_true hyz
        have hnext : Hid (Lo l (j + 1) j) := .inr ⟨y, by omega, hy, fun k q hk hq => by
          by_cases e : k = j
          · subst e; rw [hy] at hq; cases hq; exact Nat.le_refl _
          · rcases hst.out.1 with ⟨h0, _⟩ | ⟨x, h1, h2, h3⟩
            · omega
            · rw [hz] at h2; cases h2
              have := h3 k q (by omega) hq
              omega⟩
        clear hy hz cy cz hst hyz
        go_wp2_with fail
        go_quiet (fail)
        go_wp2_with fail
        go_roundw
        case rel => exact ⟨j + 1, j, by omega, by omega, by go_num, rfl, hnext.out, belowN hb.out _⟩
        case measure => simp [intOf]; omega
      · have t1 : decide ((y : Int) < (z : Int)) = false := decide_eq_false (by omega)
        have t2 : decide (y < z) = false := decide_eq_false hyz
        have hnext : Hid (Lo l (j + 1) a) := .inr ⟨z, by omega, hz, fun k q hk hq => by
          by_cases e : k = j
          · subst e; rw [hy] at hq; cases hq; omega
          · rcases hst.out.1 with ⟨h0, _⟩ | ⟨x, h1, h2, h3⟩
            · omega
            · rw [hz] at h2; cases h2
              exact h3 k q (by omega) hq⟩
        clear hy hz cy cz hst hyz
        go_wp2_with fail
        go_quiet (fail)
        go_wp2_with fail
        go_roundw
        case rel => exact ⟨j + 1, a, by omega, by omega, by go_num, rfl, hnext.out, belowN hb.out _⟩
        case measure => simp [intOf]; omega
    · obtain rfl : j = n2 := by omega
      have hlo := hid hst.out.1
      have hb := hid hst.out.2
      have hat : Hid (∀ k, k < j → (lf l)[k]? = l[(a + k) % j]?) := fun k hk => by
        have hne : l ≠ [] := fun e => by rw [e] at hn2; have := hn2.out; simp at this; omega
        have h1 := hlo.out
        rw [← hn2.out] at h1
        have h2 := h1.least hne
        unfold lf
        rw [rot_get hnd.out h2 (by rw [hn2.out]; exact hk), hn2.out]
      have hlf : Hid ((lf l).length = j) := by unfold lf; rw [rot_len]; exact hn2
      obtain ⟨m, rfl⟩ : ∃ m, m = j := ⟨_, rfl⟩
      obtain ⟨wo, hwo⟩ : ∃ wo, wo = wr := ⟨wr, rfl⟩
      subst hwo
      have st0 : Hid (wo.ownsRow w.heap.size 3 1 (.slice none 0 0) 0 (ncs ((lf l).take 0)) ∧ Below w1.heap.size w1 wo) := ⟨World.ownsRow_nil _ _ _ _, hb.out⟩
      clear hst hlo hb hge hj
      go_wp2_with fail
      go_loopw [8, 9] (fun s8 s9 wr => ∃ k : Nat, k ≤ m ∧ s9 = .int .i64 (k : Int) ∧ Hid (wr.ownsRow w.heap.size 3 1 s8 k (ncs ((lf l).take k)) ∧ Below w.heap.size w wr))
        (fun _ s9 _ => m - (intOf s9).toNat)
      case atStart => exact ⟨0, by omega, by go_num, st0.out.1, hbb.out.trans (st0.out.2.mono hbb.out.size)⟩
      case round =>
        obtain ⟨k, hk, rfl, hst⟩ := hrel
        clear st0
        rcases Nat.lt_or_ge k m with hlt | hge
        · have hq : (a + k) % m < m := Nat.mod_lt _ (by omega)
          obtain ⟨y, hy⟩ : ∃ y, l[(a + k) % m]? = some y := ⟨_, List.getElem?_eq_getElem (by rw [hn2.out]; exact hq)⟩
          have hlk : (lf l)[k]? = some y := (hat.out k hlt).trans hy
          have htk : Hid ((lf l).take (k + 1) = (lf l).take k ++ [y]) := by rw [List.take_add_one, hlk]; exact hid rfl
          obtain ⟨ad', n', cap', e', _, _, _, hcl⟩ := hx0.out.below hst.out.2
          simp only [Value.slice.injEq] at e'
          obtain ⟨rfl, rfl, rfl⟩ := e'
          obtain ⟨b2, o2, rfl, cy⟩ := hcl _ y hy
          have hown := hst.out.1
          have hbw := hst.out.2
          have hsz := hbw.size
          obtain ⟨q, hqq⟩ : ∃ q, q = (a + k) % m := ⟨_, rfl⟩
          rw [← hqq] at cy hq
          have hmod : ((a : Int) + (k : Int)).tmod (m : Int) = (q : Int) := by
            rw [Int.tmod_eq_emod_of_nonneg (by omega), hqq, show (a : Int) + (k : Int) = ((a + k : Nat) : Int) from by omega, ← Int.natCast_emod]
          have z1 : ¬ (m = 0) := by omega
          have z2 : ¬ ((m : Int) = 0) := by omega
          have i5 : (0 : Int) ≤ (q : Int) := by omega
          have i6 : (q : Int) < (m : Int) := by omega
          replace hqq := hid hqq
          clear hy hlk hcl hst
          go_wp2_with (at_builtin; refine wpList_append_own _ rfl (.tmp 37) (.tmp 47) 53 rfl w.heap.size 3 j0 _ 1 8 Tryd.underlying53 hjf hy0 hy1 hy2 rfl (by decide) _ _ _ rfl (hown.alloc _) ⟨wr.heap.size, 0, none⟩ 1 1 [.int .i64 (y : Int)] rfl rfl (one_new wr _ _) (by simp [Value.oneCell']) (by unfold maxLen; omega) (by omega) (by simp; omega) ?_; intro v' w' ho' hg' _)
          have hnew : Hid (w'.ownsRow w.heap.size 3 1 v' (k + 1) (ncs ((lf l).take (k + 1))) ∧ Below w.heap.size w w') :=
            ⟨by rw [htk.out, ncs_append]; exact ho', below_row (hbw.alloc hsz _) (Nat.le_refl _) (hown.alloc _) (Nat.le_refl _) hg'⟩
          clear ho' hg'
          go_wp2_with fail
          go_roundw
          case rel => exact ⟨k + 1, by omega, by go_num, hnew⟩
          case measure => simp [intOf]; omega
        · obtain rfl : k = m := by omega
          have hfin : Hid (NL wr u8 (lf l)) := by
            have h1 := hst.out.1
            rw [List.take_of_length_le (by rw [hlf.out]; exact Nat.le_refl _)] at h1
            refine hid (nl_of (base := w.heap.size) ?_)
            rw [hlf.out]
            exact h1
          have hb := hid hst.out.2
          clear hst
          go_wp2_with fail
          go_ret
          exact ⟨_, rfl, hfin.out, hb.out⟩

end Go.Proofs.YtdlggnibgnflnaaDoor
