/- A road gone over backwards: the iterator's own walk. -/
import Derived.RangeFuncNested
import Derived.RangeFuncBound
import Derived.RangeFuncCalls
import Derived.RangeFuncLeaves
import Derived.RangeFuncRecord
import Derived.Shelf.Abstract
import Derived.Shelf.RegionOpen
import Derived.WalkKit
import Derived.OwnWalkIn
import Derived.TacticsInMore
import Derived.LoopNIn
import Derived.LoopIn
import Derived.Test.YtnkgpjjlgbggcaaDoorPrior6
namespace Go.Proofs.YtnkgpjjlgbggcaaDoor
open Go.RowKit Go.Shelf
set_option linter.unusedVariables false
attribute [local go_sem] Oper.semAt_some

def XBox (w : World) (b x : Nat) : Prop := w.heap[b]? = some (.cells #[.int .i32 (x : Int)] 21 (0, 0))
theorem XBox.cell {w : World} {b x : Nat} (h : XBox w b x) : w.cell? ⟨b, 0, none⟩ = some (.int .i32 (x : Int)) := by unfold World.cell?; rw [h]; simp
theorem XBox.turned {S : Nat → Prop} {w w' : World} {b x : Nat} (h : XBox w b x) (ht : Turned S w w') (hb : ¬ S b) : XBox w' b x := (ht.block b (Array.getElem?_eq_some_iff.1 h).1 hb).trans h
theorem FBox.turned {S : Nat → Prop} {w w' : World} {b fb : Nat} (h : FBox w b fb) (ht : Turned S w w') (hb : ¬ S b) : FBox w' b fb := (ht.block b (Array.getElem?_eq_some_iff.1 h).1 hb).trans h

section
variable {lo fb n nb N : Nat} {w w0 wr : World} {T : Tb} {v : Nat → Int} {sub seq : Nat → List Nat} {pp par : Nat → Nat} {adj : Nat → Nat → Prop}

/-- What turns elsewhere leaves the Forest. -/
theorem HS.under (h : HS lo w w0 fb n nb N T v sub seq pp par adj wr) {S : Nat → Prop} {w' : World} (ht : Turned S wr w') (h1 : ¬ S fb) (h2 : ¬ S nb) (hS : ∀ k, S k → lo ≤ k ∧ ∀ cs t fr, w0.heap[k]? = some (.cells cs t fr) → t ≠ 49 → t ≠ 53 → False) : HS lo w w0 fb n nb N T v sub seq pp par adj w' :=
  ⟨h.fo.of ht h1 h2, h.lc, h.he, h.hN, h.nlo, h.flo, h.below.trans (ht.below (fun k hk => (hS k hk).1) (Nat.le_trans h.lw h.below.size)), h.n1, h.n2, h.lw, fun k cs t fr hk a b => by
    have hk2 := h.keep k cs t fr hk a b
    exact (ht.block k (Array.getElem?_eq_some_iff.1 hk2).1 (fun e => (hS k e).2 cs t fr hk a b)).trans hk2⟩

set_option maxRecDepth 100000 in
set_option maxHeartbeats 2000000 in
theorem back1_in (m l b1 b2 x : Nat) (S : Nat → Prop) (J : List Nat → World → Prop) (mu : World → Nat) (hm : 1 ≤ m)
    (h : HS lo w w0 fb n nb N T v sub seq pp par adj wr) (hx0 : x ≠ 0) (hx : x < N) (hu : (T x).up = 0) (hp : pp x = 0) (hf : FBox wr b1 fb) (ht : XBox wr b2 x)
    (s1 : ¬ S fb) (s2 : ¬ S nb) (s3 : ¬ S b1) (s4 : ¬ S b2) (sS : ∀ k, S k → lo ≤ k ∧ ∀ cs t fr, w0.heap[k]? = some (.cells cs t fr) → t ≠ 49 → t ≠ 53 → False) (n1 : b1 ≠ nb) (n2 : b2 ≠ nb)
    (hJ : ∀ pre W W', J pre W → Turned (fun k => k = nb) W W' → J pre W') (hmu : ∀ pre W, J pre W → mu W = (seq x).length - pre.length) (h0 : J [] wr)
    (hY : ∀ (pre : List Nat) (d : Nat) (W : World), J pre W → (∃ suf, (seq x).reverse = pre ++ d :: suf) → YieldAt Fence.wide (m - 1) Tryd.prog l #[.int .i32 (d : Int)] W fun e W' => e = .returned (.bool true) ∧ J (pre ++ [d]) W' ∧ Turned S W W') :
    CallsIn Fence.wide m Tryd.prog 57 #[.func (.yield l) #[] #[], .pointer (some ⟨b1, 0, none⟩), .pointer (some ⟨b2, 0, none⟩)] wr fun e w' => (∃ u, e = .returned u) ∧ J (seq x).reverse w' ∧ ∃ T' sub', HS lo w w0 fb n nb N T' v sub' seq pp par adj w' := by
  have hroot := h.lc.gd.inv.root x hx0 hu
  have hla := hid (h.lastOf x hx [] ⟨[], Path.root x hx0 hu⟩)
  have cf := hf.cell
  have ct := ht.cell
  have hlast : Hid (∀ w2 x' T' sub', HS lo w w0 fb n nb N T' v sub' seq pp par adj w2 → x' ≠ 0 → x' < N → (T' x').t = false → (T' x').r = 0 → seq x' = seq x → (∃ pre, Path T' sub' x' pre []) → Turned (fun k => k = nb) wr w2 → ∃ T1 sub1 pre, HS lo w w0 fb n nb N T1 v sub1 seq pp par adj w2 ∧ J pre w2 ∧ FBox w2 b1 fb ∧ XBox w2 b2 x ∧ ((x' = 0 ∧ pre = (seq x).reverse) ∨ (x' ≠ 0 ∧ x' < N ∧ seq x' = seq x ∧ (T1 x').t = false ∧ ∃ post, (∃ pr, Path T1 sub1 x' pr post) ∧ pre.reverse = sub1 (T1 x').r ++ post))) := hid (fun w2 x' T' sub' a1 a2 a3 a4 a5 a6 a7 a8 =>
    ⟨T', sub', [], a1, hJ [] wr w2 h0 a8, hf.turned a8 n1, ht.turned a8 n2, Or.inr ⟨a2, a3, a6, a4, [], a7, by rw [a5, a1.lc.gd.inv.sub0]; rfl⟩⟩)
  have hJh := hid hJ
  have hYh := hid hY
  have hmuh := hid hmu
  have hx0 := hid hx0
  have hp := hid hp
  clear h hf ht hJ hY hmu h0 hroot hu
  refine callsIn_of_wp Tryd.func57 rfl trivial ?_ rfl
  simp only [Tryd.ntmps57, List.size_toArray, List.length_cons, List.length_nil, Nat.reduceAdd, Nat.reduceSub, Array.replicate_succ, Array.replicate_zero, List.push_toArray, List.append_toArray, List.nil_append, List.cons_append]
  gi_wp2_with (refine ⟨trivial, ?_⟩; gi_at_call 58; refine (callsIn_wide.2 hla.out).mono ?_; rintro e w2 ⟨x', T', sub', rfl, a1, a2, a3, a4, a5, a6, a7, a8⟩; have hst := hid (hlast.out w2 x' T' sub' a3 a1 a2 a4 a5 a6 a7 a8); clear a1 a2 a3 a4 a5 a6 a7 a8)
  gi_loopw [4] (fun u wy => ∃ d : Nat, u = .int .i32 (d : Int) ∧ Hid (∃ T1 sub1 pre, HS lo w w0 fb n nb N T1 v sub1 seq pp par adj wy ∧ J pre wy ∧ FBox wy b1 fb ∧ XBox wy b2 x ∧ ((d = 0 ∧ pre = (seq x).reverse) ∨ (d ≠ 0 ∧ d < N ∧ seq d = seq x ∧ (T1 d).t = false ∧ ∃ post, (∃ pr, Path T1 sub1 d pr post) ∧ pre.reverse = sub1 (T1 d).r ++ post)))) (fun _ wy => mu wy)
  case atStart => exact ⟨x', rfl, hst⟩
  case round =>
    clear hst cf ct
    obtain ⟨d, rfl, hst⟩ := hrel
    obtain ⟨T1, sub1, pre, h1, hj, hf1, ht1, hd⟩ := hst.out
    have hmu1 := hid (hmuh.out pre _ hj)
    have cf := hf1.cell
    rcases hd with ⟨rfl, hpre⟩ | ⟨hd0, hdN, hsd, htd, post, hPd, hpo⟩
    · have fin := hid (And.intro hj h1)
      have hpreh := hid hpre
      clear hst h1 hj hf1 ht1 hpre
      gi_wp2
      refine ⟨fun _ h => (by cases h), ?_⟩
      gi_wp2
      go_end0
      exact ⟨⟨_, rfl⟩, by rw [← hpreh.out]; exact fin.out.1, _, _, fin.out.2⟩
    · have td : ((d : Int) != 0) = true := by simp; omega
      have td2 : ((d : Int) == 0) = false := by simp; omega
      have hsplit : ∃ suf, (seq x).reverse = pre ++ d :: suf := by
        obtain ⟨pr, hPr⟩ := hPd
        have e1 := hPr.seq_is h1.lc.gd.inv
        rw [hsd, h1.lc.gd.inv.flat hd0 htd, show (T1 d).k true = (T1 d).r from rfl] at e1
        refine ⟨(pr ++ sub1 ((T1 d).k false)).reverse, ?_⟩
        rw [e1, show pre = (pre.reverse).reverse from by simp, hpo]
        simp
      obtain ⟨fn, tmps, assign, body, hy, hR⟩ := hYh.out pre d _ hj hsplit
      have h1 := hid h1
      have hd0 := hid hd0
      have hPd := hid hPd
      have hpo := hid hpo
      have hsd := hid hsd
      have htd := hid htd
      have hf1 := hid hf1
      have ht1 := hid ht1
      have hlenp : Hid (pre.length < (seq x).length) := hid (by
        obtain ⟨suf, hs⟩ := hsplit
        have := congrArg List.length hs
        simp at this
        omega)
      clear hst hsplit hj
      gi_wp2
      refine hR.mono ?_
      rintro e w3 ⟨rfl, hj3, hk3⟩
      have h3 := hid (h1.out.under hk3 s1 s2 sS)
      have hf3 := hid (hf1.out.turned hk3 s3)
      have ht3 := hid (ht1.out.turned hk3 s4)
      have cf3 := hf3.out.cell
      have hpd : pp d = 0 := (h1.out.lc.pst d x hd0.out hx0.out hsd.out).trans hp.out
      have hpr := hid (h3.out.prior d hdN hpd post hPd.out htd.out)
      have hj3 := hid hj3
      clear hk3 hy hR cf h1 hf1 ht1 hpd
      gi_wp2_with (refine ⟨trivial, ?_⟩; gi_at_call 59; refine (callsIn_wide.2 hpr.out).mono ?_; rintro e w4 ⟨z, T4, sub4, rfl, hzN, h4, t4, hz⟩; have h4 := hid h4; have t4 := hid t4; have hz := hid hz)
      have hj4 := hid (hJh.out _ _ _ hj3.out t4.out)
      have hmu4 := hid (hmuh.out _ _ hj4.out)
      go_roundw
      case rel =>
        refine ⟨z, rfl, ⟨T4, sub4, pre ++ [d], h4.out, hj4.out, hf3.out.turned t4.out n1, ht3.out.turned t4.out n2, ?_⟩⟩
        rcases hz.out with ⟨z0, e1⟩ | ⟨z0, e1, e2, post', e3, e4⟩
        · refine Or.inl ⟨z0, ?_⟩
          rw [← hsd.out, e1]
          simp only [List.reverse_cons, ← hpo.out, List.reverse_reverse]
        · refine Or.inr ⟨z0, hzN, e1.trans hsd.out, e2, post', e3, ?_⟩
          rw [e4, ← hpo.out]; simp
      case measure =>
        have := hmu1.out
        have := hmu4.out
        have := hlenp.out
        simp at *
        omega
end

end Go.Proofs.YtnkgpjjlgbggcaaDoor
