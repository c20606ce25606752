/- The document's Darts, walked. -/
import Derived.Test.YtghpjljnbdjmaaaGreatDoorBwith
namespace Go.Proofs.YtghpjljnbdjmaaaGreatDoor
open Go.RowKit
set_option linter.unusedVariables false

open Classical in
/-- The darts below k that stand. -/
noncomputable def laid (V : Nat) (R : Nat → List Nat) : Nat → List Nat
  | 0 => []
  | k + 1 => laid V R k ++ (if In V R k then [k] else [])

theorem laid_yes {V : Nat} {R : Nat → List Nat} {k : Nat} (h : In V R k) : laid V R (k + 1) = laid V R k ++ [k] := by rw [laid, if_pos h]
theorem laid_no {V : Nat} {R : Nat → List Nat} {k : Nat} (h : ¬ In V R k) : laid V R (k + 1) = laid V R k := by rw [laid, if_neg h, List.append_nil]
theorem laid_len (V : Nat) (R : Nat → List Nat) : ∀ k, (laid V R k).length ≤ k
  | 0 => by simp [laid]
  | k + 1 => by
    by_cases h : In V R k
    · rw [laid_yes h]; have := laid_len V R k; simp; omega
    · rw [laid_no h]; have := laid_len V R k; omega
theorem mem_laid {V : Nat} {R : Nat → List Nat} : ∀ {k x : Nat}, x ∈ laid V R k ↔ x < k ∧ In V R x
  | 0, x => by simp [laid]
  | k + 1, x => by
    by_cases h : In V R k
    · rw [laid_yes h, List.mem_append, mem_laid, List.mem_singleton]
      constructor
      · rintro (⟨h1, h2⟩ | rfl)
        · exact ⟨by omega, h2⟩
        · exact ⟨by omega, h⟩
      · rintro ⟨h1, h2⟩
        by_cases e : x = k
        · exact .inr e
        · exact .inl ⟨by omega, h2⟩
    · rw [laid_no h, mem_laid]
      constructor
      · rintro ⟨h1, h2⟩; exact ⟨by omega, h2⟩
      · rintro ⟨h1, h2⟩
        refine ⟨?_, h2⟩
        by_cases e : x = k
        · subst e; exact absurd h2 h
        · omega

theorem At.in {V : Nat} {R : Nat → List Nat} {d : Nat} {r s : Int} (h : At V R (d : Int) r s) : (0 ≤ r ∧ In V R d) ∨ (r = -1 ∧ ¬ In V R d) := by
  rcases h with ⟨h1, _, h3⟩ | ⟨u, i, h1, h2, _, x, h4, h5⟩
  · exact .inr ⟨h1, fun ⟨v, h4, h5⟩ => h3 v h4 d h5 rfl⟩
  · refine .inl ⟨by omega, u, h1, ?_⟩
    have : x = d := by omega
    subst this
    exact List.mem_of_getElem? h4

/-- Below: the row stays. -/
theorem ownsRow_below {w w' : World} {base e size n : Nat} {v : Value} {xs : List Value} (h : w.ownsRow base e size v n xs) (hb : Below w.heap.size w w') : w'.ownsRow base e size v n xs := by
  refine ⟨h.1, ?_⟩
  rcases h.2 with h2 | ⟨g, cap, cur, hv, hg, hh, r⟩
  · exact .inl h2
  · refine .inr ⟨g, cap, cur, hv, hg, ?_, r⟩
    rw [hb.block g (Array.getElem?_eq_some_iff.1 hh).1]
    exact hh

set_option maxRecDepth 100000 in
set_option maxHeartbeats 4000000 in
theorem rdarts_ok (tv : Value) (E V : Nat) (R : Nat → List Nat) (w : World) (hv : RT w tv E V R) (hE : E ≤ 1000) (hV : V ≤ 1000) (hl : ∀ u, u < V → (R u).length ≤ 1000) :
    Calls Tryz.prog 47 #[tv] w fun e w' => ∃ rv, e = .returned rv ∧ NL w' rv (laid V R (2 * E)) ∧ Below w.heap.size w w' := by
  obtain ⟨j0, hjf, hy0, hy1, hy2⟩ := info_parts infoInt
  have hf := hid (fun (d : Nat) y (hy : Below w.heap.size w y) => rfind_ok tv E V R (d : Int) y (hv.below hy) hV hl)
  obtain ⟨lv, rfl, hr⟩ := hv
  obtain ⟨c0, c1⟩ := two_new w (.int .i64 (E : Int)) lv 27
  have hbb := hid (balloc w (.cells #[.int .i64 (E : Int), lv] 27))
  obtain ⟨w1, hw1⟩ : ∃ w1, w.alloc (.cells #[.int .i64 (E : Int), lv] 27) = w1 := ⟨_, rfl⟩
  rw [hw1] at c0 c1 hbb
  replace c0 := hid c0
  replace c1 := hid c1
  clear hr
  go_enter Tryz.func47, Tryz.ntmps47
  go_wp2_with fail
  try rw [hw1]
  clear hw1
  go_loopw [3, 4] (fun s3 s4 wr => ∃ k : Nat, k ≤ 2 * E ∧ s4 = .int .i64 (k : Int) ∧ Hid (∃ m, m = (laid V R k).length ∧ wr.ownsRow w1.heap.size 3 1 s3 m (ncs (laid V R k)) ∧ Below w1.heap.size w1 wr))
    (fun _ s4 _ => 2 * E - (intOf s4).toNat)
  case atStart => exact ⟨0, by omega, by go_num, 0, rfl, World.ownsRow_nil _ _ _ _, Below.refl _ _⟩
  case round =>
    obtain ⟨k, hk, rfl, hst⟩ := hrel
    obtain ⟨m, hm, hown, hbw⟩ := hst.out
    have hlm := laid_len V R k
    rw [← hm] at hlm
    replace hm := hid hm
    have e0 := (hbw.cell (World.block_lt_of_cell? _ _ c0.out)).trans c0.out
    have e1 := (hbw.cell (World.block_lt_of_cell? _ _ c1.out)).trans c1.out
    clear hst
    rcases Nat.lt_or_ge k (2 * E) with hlt | hge
    · have t1 : decide ((k : Int) < 2 * (E : Int)) = true := decide_eq_true (by omega)
      go_wp2_with fail
      refine (hf.out k wr (hbb.out.trans (hbw.mono hbb.out.size))).mono ?_
      rintro e w2 ⟨r, s, rfl, hat, b2⟩
      rcases hat.in with ⟨hr0, hin⟩ | ⟨rfl, hin⟩
      · have t2 : decide (r ≥ 0) = true := decide_eq_true hr0
        have hown2 := ownsRow_below hown b2
        have hbw2 := hbw.trans (b2.mono hbw.size)
        have hsz := hbw2.size
        clear hown hbw e0 e1 b2 hat
        have hsm : m ≤ 2000 := by omega
        go_wp2_with (at_builtin; refine wpList_append_own _ rfl (.tmp 22) (.tmp 24) 30 rfl w1.heap.size 3 j0 _ 1 8 Tryz.underlying30 hjf hy0 hy1 hy2 rfl (by decide) _ _ _ rfl (hown2.alloc _) ⟨w2.heap.size, 0, none⟩ 1 1 [.int .i64 (k : Int)] rfl rfl (one_new w2 _ _) (by simp [Value.oneCell']) (by unfold maxLen; omega) (by omega) (by simp; omega) ?_; intro v' w' ho' hg' _)
        have hnew : Hid (w'.ownsRow w1.heap.size 3 1 v' (m + 1) (ncs (laid V R (k + 1))) ∧ Below w1.heap.size w1 w') :=
          ⟨by rw [laid_yes hin, ncs_append]; exact ho', below_row (hbw2.alloc hsz _) (Nat.le_refl _) (hown2.alloc _) (Nat.le_refl _) hg'⟩
        clear ho' hg'
        go_wp2_with fail
        go_roundw
        case rel => exact ⟨k + 1, by omega, by go_num, m + 1, by rw [laid_yes hin, hm.out]; simp, hnew.out⟩
        case measure => simp [intOf]; omega
      · have hnew : Hid (w2.ownsRow w1.heap.size 3 1 u3 m (ncs (laid V R (k + 1))) ∧ Below w1.heap.size w1 w2) := by
          rw [laid_no hin]
          exact hid ⟨ownsRow_below hown b2, hbw.trans (b2.mono hbw.size)⟩
        clear hown hbw e0 e1 b2 hat
        go_wp2_with fail
        go_roundw
        case rel => exact ⟨k + 1, by omega, by go_num, m, by rw [laid_no hin]; exact hm.out, hnew.out⟩
        case measure => simp [intOf]; omega
    · obtain rfl : k = 2 * E := by omega
      have t1 : decide (((2 * E : Nat) : Int) < 2 * (E : Int)) = false := decide_eq_false (by omega)
      have hfin : Hid (NL wr u3 (laid V R (2 * E))) := hid (nl_of (base := w1.heap.size) (by rw [← hm.out]; exact hown))
      have hb : Hid (Below w.heap.size w wr) := hbb.out.trans (hbw.mono hbb.out.size)
      clear hown hbw
      go_wp2_with fail
      go_ret
      exact ⟨_, rfl, hfin.out, hb.out⟩

end Go.Proofs.YtghpjljnbdjmaaaGreatDoor
