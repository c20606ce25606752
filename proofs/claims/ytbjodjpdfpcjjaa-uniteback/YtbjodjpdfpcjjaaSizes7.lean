/- 'UniteSizes', walked. -/
import Derived.Test.YtbjodjpdfpcjjaaLaws7
namespace Go.Proofs.Ytbjodjpdfpcjjaa
open Go.RowKit
set_option linter.unusedVariables false

theorem iw (x : Int) : IntKind.i64.wrap x = wrap64 x := by rw [IntKind.wrap_i64]; unfold wrap64; omega

set_option maxRecDepth 100000 in
set_option maxHeartbeats 4000000 in
theorem sizes_law (n : Int) (ad : Option Addr) (qs : List Act3) (cap : Nat) (wb : World) (hq : Acts3 wb ad qs) :
    Calls Try.prog 4 #[.int .i64 n, .slice ad qs.length cap] wb fun e w' => e = .returned (.bool true) ∧ Below wb.heap.size wb w' := by
  obtain ⟨K, hK, hK1, hK2⟩ := mod_up n 40 (by decide) (by decide)
  have hK40 : K ≤ 40 := by omega
  have hql := hq.bound
  have hnew := hid (GL.new K wb (by omega) (by omega))
  replace hq := hid hq
  go_enter Try.func4, Try.ntmps4
  go_wp2_with fail
  try rw [hK]
  refine hnew.out.mono ?_
  rintro e w1 ⟨gb, rfl, h1⟩
  have st1 : Hid (∃ hs, GL wb gb K hs w1) := ⟨_, h1⟩
  clear h1 hnew hK
  have hKw : IntKind.u64.wrap (K : Int) = (K : Int) := by rw [IntKind.wrap_u64]; omega
  have hK0 : ¬ K = 0 := by omega
  have hK0' : ¬ (K : Int) = 0 := by omega
  go_wp2_with fail
  go_loopw [8] (fun u wr => ∃ t : Nat, t ≤ qs.length ∧ t ≤ 80 ∧ u = .int .i64 (t : Int) ∧ Hid (∃ hs, GL wb gb K hs wr)) (fun u _ => 80 - (intOf u).toNat)
  case atStart => exact ⟨0, by omega, by omega, by go_num, st1⟩
  case round =>
    clear st1
    obtain ⟨t, ht1, ht2, rfl, hst⟩ := hrel
    by_cases hgo : t < qs.length ∧ t < 80
    · obtain ⟨hgo1, hgo2⟩ := hgo
      obtain ⟨q, hqt⟩ : ∃ q, qs[t]? = some q := ⟨_, List.getElem?_eq_getElem hgo1⟩
      obtain ⟨hs, h1⟩ := hst.out
      obtain ⟨f, fs, rfl⟩ := h1.cons
      cases ad with
      | none => have := hq.out.nil rfl; subst this; simp at hgo1
      | some a0 =>
        obtain ⟨_, c1, c2⟩ := (hq.out.below h1.below).at hqt
        replace h1 := hid h1
        obtain ⟨a, ha, haK⟩ := mod_inN q.a K (by omega) (by omega)
        obtain ⟨b, hb, hbK⟩ := mod_inN q.b K (by omega) (by omega)
        have ha' : IntKind.i64.wrap ((IntKind.u64.wrap q.a).tmod (K : Int)) = (a : Int) := (iw _).trans ha
        have hb' : IntKind.i64.wrap ((IntKind.u64.wrap q.b).tmod (K : Int)) = (b : Int) := (iw _).trans hb
        have i1 : (0 : Int) ≤ (t : Int) := by omega
        have i2 : (t : Int) < (qs.length : Int) := by omega
        have hj := hid (h1.out.drew.join a b haK hbK)
        have hold : Hid (∀ y, Below wb.heap.size wb y → y.cell? ⟨(a0.add (t * 3)).block, (a0.add (t * 3)).off + 1, none⟩ = some (.int .i64 q.a) ∧ y.cell? ⟨(a0.add (t * 3)).block, (a0.add (t * 3)).off + 2, none⟩ = some (.int .i64 q.b)) := fun y hy => ((hq.out.below hy).at hqt).2
        clear hqt hst ha hb
        go_wp2_with fail
        go_region_held3 (fun y => y.cell? ⟨(a0.add (t * 3)).block, (a0.add (t * 3)).off + 1, none⟩ = some (.int .i64 q.a) ∧ y.cell? ⟨(a0.add (t * 3)).block, (a0.add (t * 3)).off + 2, none⟩ = some (.int .i64 q.b)) (first | assumption | go_keep)
          ((go_at_call 7; refine hj.out.mono ?_; rintro e w2 ⟨rfl, h2⟩; have k2 := hold.out _ h2.below; replace h2 := hid h2))
        go_wp2_with fail
        go_roundw
        case rel => exact ⟨t + 1, by omega, by omega, by go_num, ⟨_, h2.out⟩⟩
        case measure => simp [intOf]; omega
    · have hstop : qs.length ≤ t ∨ (t < qs.length ∧ 80 ≤ t) := by omega
      clear hgo
      obtain ⟨hs, h1⟩ := hst.out
      obtain ⟨f, fs, rfl⟩ := h1.cons
      obtain ⟨k1, k2, k3⟩ := h1.ok
      replace h1 := hid h1
      replace k1 := hid k1
      replace k2 := hid k2
      replace k3 := hid k3
      have hall : ∀ x, cnt (fun y => decide (f y < x)) K ≤ K := fun x => cnt_le _ _
      replace hall := hid hall
      clear hst
      rcases hstop with hstop | ⟨hstop1, hstop2⟩
      all_goals
        go_wp2_with fail
        go_loopw [9, 10, 11] (fun u v z wr => ∃ x : Nat, x ≤ K ∧ z = .int .i64 (x : Int) ∧ u = .int .i64 (cnt (fun y => decide (f y < x)) K : Int) ∧ v = .int .i64 (cnt (fun y => f y == y) x : Int) ∧ Hid (GL wb gb K (f :: fs) wr)) (fun _ _ z _ => K - (intOf z).toNat)
        case atStart => exact ⟨0, by omega, by go_num, by rw [cnt_none (fun y _ => by simp)]; rfl, rfl, h1⟩
        case round =>
          clear h1
          obtain ⟨x, hx, rfl, rfl, rfl, h3⟩ := hrel
          rcases Nat.lt_or_ge x K with hxK | hxK
          · obtain ⟨A, hA⟩ : ∃ A, cnt (fun y => decide (f y < x)) K = A := ⟨_, rfl⟩
            obtain ⟨M, hM⟩ : ∃ M, cnt (fun y => f y == y) x = M := ⟨_, rfl⟩
            obtain ⟨L, hL⟩ : ∃ L, f x = L := ⟨_, rfl⟩
            obtain ⟨S, hS⟩ : ∃ S, cnt (fun y => f y == f x) K = S := ⟨_, rfl⟩
            have hAK : A ≤ K := hA ▸ cnt_le _ _
            have hMK : M ≤ x := hM ▸ cnt_le _ _
            have hSK : S ≤ K := hS ▸ cnt_le _ _
            have hLx : L ≤ x := hL ▸ k1.out x hxK
            have hfL : f x = f L := by rw [← hL]; exact (k2.out x hxK).symm
            have hA1 := cnt_lt_succ (n := K) (f := f) x
            have hM1 : cnt (fun y => f y == y) (x + 1) = M + (if f x == x then 1 else 0) := by rw [← hM]; rfl
            rw [hA] at hA1 ⊢
            rw [hM]
            have hle := hid (h3.out.least x hxK)
            rw [hL] at hle
            have hsi : Hid (∀ y, GL wb gb K (f :: fs) y → Calls Try.prog 11 #[.pointer (some ⟨gb, 0, none⟩), .int .i64 (x : Int)] y fun e w' => e = .returned (.tuple #[.int .i64 (S : Int), .nilIface]) ∧ GL wb gb K (f :: fs) w') := fun y hy => by
              have := hy.size x hxK
              rw [hS] at this
              exact this
            have hsa : Hid (∀ y, GL wb gb K (f :: fs) y → Calls Try.prog 14 #[.pointer (some ⟨gb, 0, none⟩), .int .i64 (x : Int), .int .i64 (L : Int)] y fun e w' => e = .returned (.tuple #[.bool true, .nilIface]) ∧ GL wb gb K (f :: fs) w') := fun y hy => by
              have := hy.same x L hxK (by omega)
              rw [decide_eq_true hfL] at this
              exact this
            have t1 : decide ((x : Int) < (L : Int)) = false := decide_eq_false (by omega)
            have t1' : decide (x < L) = false := decide_eq_false (by omega)
            by_cases hxL : L = x
            · have e1 : Hid (cnt (fun y => decide (f y < x + 1)) K = A + S) := by
                rw [hA1, ← hS, hL, hxL]; exact hid rfl
              have e2 : Hid (cnt (fun y => f y == y) (x + 1) = M + 1) := by
                rw [hM1, hL, hxL, if_pos (by simp)]; exact hid rfl
              have hAS : A + S ≤ K := e1.out ▸ cnt_le _ _
              subst hxL
              clear hA hM hS hL hfL hA1 hM1 t1 t1'
              go_wp2_with fail
              refine hle.out.mono ?_
              rintro e w4 ⟨rfl, h4⟩
              replace h4 := hid h4
              go_wp2_with fail
              refine (hsi.out _ h4.out).mono ?_
              rintro e w5 ⟨rfl, h5⟩
              replace h5 := hid h5
              go_wp2_with fail
              refine (hsa.out _ h5.out).mono ?_
              rintro e w6 ⟨rfl, h6⟩
              replace h6 := hid h6
              clear h4 h5 hle hsi hsa h3
              go_wp2_with fail
              go_roundw
              case rel => exact ⟨L + 1, by omega, by go_num, by rw [e1.out]; go_num, by rw [e2.out]; go_num, h6⟩
              case measure => simp [intOf]; omega
            · have e1 : Hid (cnt (fun y => decide (f y < x + 1)) K = A) := by
                rw [hA1, cnt_none (p := fun y => f y == x) (fun y hy => ?_)]
                · exact hid rfl
                · simp only [beq_eq_false_iff_ne, ne_eq]
                  intro e
                  have := k2.out y hy
                  rw [e, hL] at this
                  exact hxL this
              have e2 : Hid (cnt (fun y => f y == y) (x + 1) = M) := by
                rw [hM1, hL, if_neg (by simpa using hxL)]; exact hid rfl
              have t2 : ((L : Int) == (x : Int)) = false := by simp; omega
              have t3 : ¬ ((L : Int) = (x : Int)) := by omega
              clear hA hM hS hL hfL hA1 hM1
              go_wp2_with fail
              refine hle.out.mono ?_
              rintro e w4 ⟨rfl, h4⟩
              replace h4 := hid h4
              go_wp2_with fail
              refine (hsi.out _ h4.out).mono ?_
              rintro e w5 ⟨rfl, h5⟩
              replace h5 := hid h5
              go_wp2_with fail
              refine (hsa.out _ h5.out).mono ?_
              rintro e w6 ⟨rfl, h6⟩
              replace h6 := hid h6
              clear h4 h5 hle hsi hsa h3
              go_wp2_with fail
              go_roundw
              case rel => exact ⟨x + 1, by omega, by go_num, by rw [e1.out], by rw [e2.out], h6⟩
              case measure => simp [intOf]; omega
          · obtain rfl : x = K := by omega
            have hA : cnt (fun y => decide (f y < x)) x = x := cnt_all (fun y hy => by have := k1.out y hy; simp; omega)
            obtain ⟨M, hM⟩ : ∃ M, cnt (fun y => f y == y) x = M := ⟨_, rfl⟩
            have hM2 : fix x f = M := hM
            have hk3 : M + fs.length = x := by rw [← hM2]; exact k3.out
            have hco : Hid (∀ y, GL wb gb x (f :: fs) y → Calls Try.prog 10 #[.pointer (some ⟨gb, 0, none⟩)] y fun e w' => e = .returned (.int .i64 (M : Int)) ∧ GL wb gb x (f :: fs) w') := fun y hy => by
              have := hy.count
              rw [hM2] at this
              exact this.mono fun e w' ⟨e1, _, e3⟩ => ⟨e1, e3⟩
            rw [hA, hM]
            obtain ⟨D, hD⟩ : ∃ D, fs.length = D := ⟨_, rfl⟩
            rw [hD] at hk3
            replace hD := hid hD
            clear hA hM hM2
            go_wp2_with fail
            refine (hco.out _ h3.out).mono ?_
            rintro e w4 ⟨rfl, h4⟩
            replace h4 := hid h4
            go_wp2_with fail
            refine (hco.out _ h4.out).mono ?_
            rintro e w5 ⟨rfl, h5⟩
            have hst := h5.steps
            rw [hD.out] at hst
            replace h5 := hid h5
            go_wp2_with fail
            refine hst.mono ?_
            rintro e w6 ⟨rfl, rfl⟩
            have e9 : (((M : Int) + (D : Int)) == (x : Int)) = true := by simp; omega
            have e8 : (M : Int) + (D : Int) = (x : Int) := by omega
            go_wp2_with fail
            refine (sure_ok _).mono ?_
            rintro e w7 ⟨rfl, b7⟩
            have fin := hid (h5.out.more b7).below
            go_wp2_with fail
            go_ret
            exact ⟨rfl, fin.out⟩

end Go.Proofs.Ytbjodjpdfpcjjaa
