import Derived.Test.YtfaehioeepolhabGreatJCrashSender45
import Derived.Test.YtfaehioeepolhabGreatJCrashSender33
import Derived.Test.YtfaehioeepolhabGreatJCrashSender48
import Derived.Test.YtfaehioeepolhabGreatJCrashSender49
import Derived.Test.YtfaehioeepolhabGreatJCrashSender19
namespace Go.Proofs.YtfaehioeepolhabGreat
open Go.RowKit
theorem OwnSnd.lt4 {w : World} {r : PSnd} {a0 a3 a1 a2 b2 : Option Addr} {c0 c3 c1 c2 d2 : Nat} {fs ts os bs ds : List Nat} (h : OwnSnd w r a0 c0 a3 c3 a1 c1 a2 c2 b2 d2 fs ts os bs ds) : ∀ x ∈ ((fs ++ ts) ++ (os ++ (bs ++ ds))), x < w.heap.size := fun y hy => by
 rcases List.mem_append.1 hy with k | k
 ·rcases List.mem_append.1 k with k | k
  ·exact h.f.lt y k
  ·exact h.t.lt y k
 ·rcases List.mem_append.1 k with k | k
  ·exact h.o.lt y k
  ·exact ltS9 h.s y k
theorem OwnSnd.kept4 {w w' : World} {r : PSnd} {a0 a3 a1 a2 b2 : Option Addr} {c0 c3 c1 c2 d2 : Nat} {fs ts os bs ds : List Nat} (h : OwnSnd w r a0 c0 a3 c3 a1 c1 a2 c2 b2 d2 fs ts os bs ds) (hk : ∀ x ∈ ((fs ++ ts) ++ (os ++ (bs ++ ds))), w'.heap[x]? = w.heap[x]?) : OwnSnd w' r a0 c0 a3 c3 a1 c1 a2 c2 b2 d2 fs ts os bs ds :=
 ⟨h.f.kept (fun x hx => hk x (List.mem_append_left _ (List.mem_append_left _ hx))), h.t.kept (fun x hx => hk x (List.mem_append_left _ (List.mem_append_right _ hx))), h.o.kept (fun x hx => hk x (List.mem_append_right _ (List.mem_append_left _ hx))), keptSt h.s (fun x hx => hk x (List.mem_append_right _ (List.mem_append_right _ hx)))⟩
theorem OwnSnd.later4 {w w' : World} {r : PSnd} {a0 a3 a1 a2 b2 : Option Addr} {c0 c3 c1 c2 d2 : Nat} {fs ts os bs ds : List Nat} (h : OwnSnd w r a0 c0 a3 c3 a1 c1 a2 c2 b2 d2 fs ts os bs ds) (hb : Below w.heap.size w w') : OwnSnd w' r a0 c0 a3 c3 a1 c1 a2 c2 b2 d2 fs ts os bs ds := h.kept4 (fun x hx => hb.block x (h.lt4 x hx))
set_option maxHeartbeats 4000000 in
theorem nextEpoch_end (r : PSnd) (a0 a3 a1 a2 b2 : Option Addr) (c0 c3 c1 c2 d2 : Nat) (g : Nat) (w : World) (hk : w.heap[g]? = some (.cells #[.slice a0 r.fields.length c0, .int .i64 r.epoch, .int .i64 r.base, .slice a3 r.tables.length c3, .int .i64 r.pushed, .int .i64 r.out.epoch, .int .i64 r.out.next, .int .i64 r.out.now, .slice a1 r.out.wait.length c1, .bool r.str.opened, .slice a2 r.str.fields.length c2, .int .i64 r.str.next, .slice b2 r.str.dicts.length d2] 45 (0, 0))) (he : r.epoch = 1000000000) :
  Calls Tryz.prog 52 #[.pointer (some ⟨g, 0, none⟩)] w fun e w' => e = .returned (.int .i64 6) ∧ w' = w := by
 have q1 := cR _ _ 1 _ _ _ hk
 simp only [gA, gZ, gU] at q1
 rw [he] at q1
 clear hk he
 go_enter Tryz.func52, Tryz.ntmps52
 go_wp2
 go_ret
 exact ⟨rfl, rfl⟩
set_option maxRecDepth 100000 in
set_option maxHeartbeats 8000000 in
theorem nextEpoch_yes (r : PSnd) (a0 a3 a1 a2 b2 : Option Addr) (c0 c3 c1 c2 d2 : Nat) (g : Nat) (w w1 : World) (hw1 : w1 = w.setCell ⟨g, 1, none⟩ (.int .i64 (r.epoch + 1))) (hk : w.heap[g]? = some (.cells #[.slice a0 r.fields.length c0, .int .i64 r.epoch, .int .i64 r.base, .slice a3 r.tables.length c3, .int .i64 r.pushed, .int .i64 r.out.epoch, .int .i64 r.out.next, .int .i64 r.out.now, .slice a1 r.out.wait.length c1, .bool r.str.opened, .slice a2 r.str.fields.length c2, .int .i64 r.str.next, .slice b2 r.str.dicts.length d2] 45 (0, 0))) (he : ¬ r.epoch = 1000000000) (hp : 0 ≤ r.epoch ∧ r.epoch ≤ 1000000000) (Q : World → Prop) (hbg : Calls Tryz.prog 103 #[.pointer (some ⟨g, 0, none⟩)] w1 fun e w' => e = .returned (.tuple #[]) ∧ Q w') :
  Calls Tryz.prog 52 #[.pointer (some ⟨g, 0, none⟩)] w fun e w' => e = .returned (.int .i64 5) ∧ Q w' := by
 have q1 := cR _ _ 1 _ _ _ hk
 have z1 := fR _ _ 1 _ _ hk
 simp only [gA, gZ, gU] at q1
 have he2 : (r.epoch == 1000000000) = false := by simpa using he
 have HBG := hid hbg
 have HW1 := hid hw1
 clear hk hbg he hw1
 go_enter Tryz.func52, Tryz.ntmps52
 go_wp2_with fail
 rw [← HW1.out]
 refine HBG.out.mono ?_
 rintro e w5 ⟨rfl, hq⟩
 have HQ := hid hq
 clear hq
 go_wp2
 go_ret
 exact ⟨rfl, HQ.out⟩
set_option maxRecDepth 100000 in
set_option maxHeartbeats 8000000 in
theorem implCrs_any (r : PSnd) (a0 a3 a1 a2 b2 : Option Addr) (c0 c3 c1 c2 d2 : Nat) (w : World) (hr : RdSnd w r a0 c0 a3 c3 a1 c1 a2 c2 b2 d2) (ht : tSnd r ≤ 1048576) :
  Calls Tryz.prog 17 #[.agg #[.slice a0 r.fields.length c0, .int .i64 r.epoch, .int .i64 r.base, .slice a3 r.tables.length c3, .int .i64 r.pushed, .int .i64 r.out.epoch, .int .i64 r.out.next, .int .i64 r.out.now, .slice a1 r.out.wait.length c1, .bool r.str.opened, .slice a2 r.str.fields.length c2, .int .i64 r.str.next, .slice b2 r.str.dicts.length d2]] w fun e w' => ∃ a0x c0x a3x c3x a1x c1x a2x c2x b2x d2x fs ts os bs ds, e = .returned (.tuple #[.agg #[.slice a0x (csR r).fields.length c0x, .int .i64 (csR r).epoch, .int .i64 (csR r).base, .slice a3x (csR r).tables.length c3x, .int .i64 (csR r).pushed, .int .i64 (csR r).out.epoch, .int .i64 (csR r).out.next, .int .i64 (csR r).out.now, .slice a1x (csR r).out.wait.length c1x, .bool (csR r).str.opened, .slice a2x (csR r).str.fields.length c2x, .int .i64 (csR r).str.next, .slice b2x (csR r).str.dicts.length d2x], .int .i64 (csK r)]) ∧ OwnSnd w' (csR r) a0x c0x a3x c3x a1x c1x a2x c2x b2x d2x fs ts os bs ds ∧ (∀ y ∈ ((fs ++ ts) ++ (os ++ (bs ++ ds))), w.heap.size ≤ y) ∧ ((fs ++ ts) ++ (os ++ (bs ++ ds))).Nodup ∧ Below w.heap.size w w' := by
 have HR := hid hr
 have HNB : Hid (∀ f ∈ r.fields, ∀ x ∈ f.name, x < 256) := hid (fun f hf => by
  obtain ⟨k, hk, rfl⟩ := List.getElem_of_mem hf
  obtain ⟨b, off, x0, x1, x2, -, hes, -, -, -⟩ := hr.f.at3 rfl hk
  obtain ⟨v, -, h1, -⟩ := cField_rd hes
  exact rdSl_ok h1)
 clear hr
 have HK0 : Hid (((w.alloc (.cells #[.slice a0 r.fields.length c0, .int .i64 r.epoch, .int .i64 r.base, .slice a3 r.tables.length c3, .int .i64 r.pushed, .int .i64 r.out.epoch, .int .i64 r.out.next, .int .i64 r.out.now, .slice a1 r.out.wait.length c1, .bool r.str.opened, .slice a2 r.str.fields.length c2, .int .i64 r.str.next, .slice b2 r.str.dicts.length d2] 45)).alloc (.cells #[.slice none 0 0, .int .i64 0, .int .i64 0, .slice none 0 0, .int .i64 0, .int .i64 0, .int .i64 0, .int .i64 0, .slice none 0 0, .bool false, .slice none 0 0, .int .i64 0, .slice none 0 0] 45)).heap[w.heap.size]? = some (.cells #[.slice a0 r.fields.length c0, .int .i64 r.epoch, .int .i64 r.base, .slice a3 r.tables.length c3, .int .i64 r.pushed, .int .i64 r.out.epoch, .int .i64 r.out.next, .int .i64 r.out.now, .slice a1 r.out.wait.length c1, .bool r.str.opened, .slice a2 r.str.fields.length c2, .int .i64 r.str.next, .slice b2 r.str.dicts.length d2] 45 (0, 0))) := hid (heap2 _ _ (Below.refl _ _)).1
 have HL0 : Hid (((w.alloc (.cells #[.slice a0 r.fields.length c0, .int .i64 r.epoch, .int .i64 r.base, .slice a3 r.tables.length c3, .int .i64 r.pushed, .int .i64 r.out.epoch, .int .i64 r.out.next, .int .i64 r.out.now, .slice a1 r.out.wait.length c1, .bool r.str.opened, .slice a2 r.str.fields.length c2, .int .i64 r.str.next, .slice b2 r.str.dicts.length d2] 45)).alloc (.cells #[.slice none 0 0, .int .i64 0, .int .i64 0, .slice none 0 0, .int .i64 0, .int .i64 0, .int .i64 0, .int .i64 0, .slice none 0 0, .bool false, .slice none 0 0, .int .i64 0, .slice none 0 0] 45)).heap[w.heap.size + 1]? = some (.cells #[.slice none 0 0, .int .i64 0, .int .i64 0, .slice none 0 0, .int .i64 0, .int .i64 0, .int .i64 0, .int .i64 0, .slice none 0 0, .bool false, .slice none 0 0, .int .i64 0, .slice none 0 0] 45 (0, 0))) := hid (heap2 _ _ (Below.refl _ _)).2
 have HB0 := hid (below_new2 w (.cells #[.slice a0 r.fields.length c0, .int .i64 r.epoch, .int .i64 r.base, .slice a3 r.tables.length c3, .int .i64 r.pushed, .int .i64 r.out.epoch, .int .i64 r.out.next, .int .i64 r.out.now, .slice a1 r.out.wait.length c1, .bool r.str.opened, .slice a2 r.str.fields.length c2, .int .i64 r.str.next, .slice b2 r.str.dicts.length d2] 45) (.cells #[.slice none 0 0, .int .i64 0, .int .i64 0, .slice none 0 0, .int .i64 0, .int .i64 0, .int .i64 0, .int .i64 0, .slice none 0 0, .bool false, .slice none 0 0, .int .i64 0, .slice none 0 0] 45))
 have HSZ := hid (size2 w (.cells #[.slice a0 r.fields.length c0, .int .i64 r.epoch, .int .i64 r.base, .slice a3 r.tables.length c3, .int .i64 r.pushed, .int .i64 r.out.epoch, .int .i64 r.out.next, .int .i64 r.out.now, .slice a1 r.out.wait.length c1, .bool r.str.opened, .slice a2 r.str.fields.length c2, .int .i64 r.str.next, .slice b2 r.str.dicts.length d2] 45) (.cells #[.slice none 0 0, .int .i64 0, .int .i64 0, .slice none 0 0, .int .i64 0, .int .i64 0, .int .i64 0, .int .i64 0, .slice none 0 0, .bool false, .slice none 0 0, .int .i64 0, .slice none 0 0] 45))
 go_enter Tryz.func17, Tryz.ntmps17
 go_upto_region 1 with fail
 generalize ((w.alloc (.cells #[.slice a0 r.fields.length c0, .int .i64 r.epoch, .int .i64 r.base, .slice a3 r.tables.length c3, .int .i64 r.pushed, .int .i64 r.out.epoch, .int .i64 r.out.next, .int .i64 r.out.now, .slice a1 r.out.wait.length c1, .bool r.str.opened, .slice a2 r.str.fields.length c2, .int .i64 r.str.next, .slice b2 r.str.dicts.length d2] 45)).alloc (.cells #[.slice none 0 0, .int .i64 0, .int .i64 0, .slice none 0 0, .int .i64 0, .int .i64 0, .int .i64 0, .int .i64 0, .slice none 0 0, .bool false, .slice none 0 0, .int .i64 0, .slice none 0 0] 45)) = W0 at *
 have p0 := cR _ _ 0 _ _ _ HK0.out
 have p1 := cR _ _ 1 _ _ _ HK0.out
 have p2 := cR _ _ 2 _ _ _ HK0.out
 have p3 := cR _ _ 3 _ _ _ HK0.out
 have p4 := cR _ _ 4 _ _ _ HK0.out
 have p5 := cR _ _ 5 _ _ _ HK0.out
 have p6 := cR _ _ 6 _ _ _ HK0.out
 have p7 := cR _ _ 7 _ _ _ HK0.out
 have p8 := cR _ _ 8 _ _ _ HK0.out
 have p9 := cR _ _ 9 _ _ _ HK0.out
 have p10 := cR _ _ 10 _ _ _ HK0.out
 have p11 := cR _ _ 11 _ _ _ HK0.out
 have p12 := cR _ _ 12 _ _ _ HK0.out
 simp only [gA, gZ, gU] at p0 p1 p2 p3 p4 p5 p6 p7 p8 p9 p10 p11 p12
 go_wp2_with fail
 refine (implSnd_any r a0 a3 a1 a2 b2 c0 c3 c1 c2 d2 W0 (HR.out.later HB0.out) ht).mono ?_
 rintro e w2 ⟨rfl, bl2⟩
 have HK2 := hid (boxSd HK0.out bl2)
 have HL2 := hid (boxSd HL0.out bl2)
 have HB2 := hid (bC HB0.out bl2)
 have hs2 := bl2.size
 have hsz := HSZ.out
 clear bl2 p0 p1 p2 p3 p4 p5 p6 p7 p8 p9 p10 p11 p12
 cases hok : sndOK r with
 | false =>
  have HD := hid (cs_no hok)
  clear hok
  have q0 := cR _ _ 0 _ _ _ HL2.out
  have zq0 := fR _ _ 0 _ _ HL2.out
  have q1 := cR _ _ 1 _ _ _ HL2.out
  have zq1 := fR _ _ 1 _ _ HL2.out
  have q2 := cR _ _ 2 _ _ _ HL2.out
  have zq2 := fR _ _ 2 _ _ HL2.out
  have q3 := cR _ _ 3 _ _ _ HL2.out
  have zq3 := fR _ _ 3 _ _ HL2.out
  have q4 := cR _ _ 4 _ _ _ HL2.out
  have zq4 := fR _ _ 4 _ _ HL2.out
  have q5 := cR _ _ 5 _ _ _ HL2.out
  have zq5 := fR _ _ 5 _ _ HL2.out
  have q6 := cR _ _ 6 _ _ _ HL2.out
  have zq6 := fR _ _ 6 _ _ HL2.out
  have q7 := cR _ _ 7 _ _ _ HL2.out
  have zq7 := fR _ _ 7 _ _ HL2.out
  have q8 := cR _ _ 8 _ _ _ HL2.out
  have zq8 := fR _ _ 8 _ _ HL2.out
  have q9 := cR _ _ 9 _ _ _ HL2.out
  have zq9 := fR _ _ 9 _ _ HL2.out
  have q10 := cR _ _ 10 _ _ _ HL2.out
  have zq10 := fR _ _ 10 _ _ HL2.out
  have q11 := cR _ _ 11 _ _ _ HL2.out
  have zq11 := fR _ _ 11 _ _ HL2.out
  have q12 := cR _ _ 12 _ _ _ HL2.out
  have zq12 := fR _ _ 12 _ _ HL2.out
  simp only [gA, gZ, gU] at q0 q1 q2 q3 q4 q5 q6 q7 q8 q9 q10 q11 q12
  go_wp2
  refine bodyPost_ret (results_cell_row_tmpD rfl _ _ (w.heap.size + 1) 45 #[.slice none 0 0, .int .i64 0, .int .i64 0, .slice none 0 0, .int .i64 0, .int .i64 0, .int .i64 0, .int .i64 0, .slice none 0 0, .bool false, .slice none 0 0, .int .i64 0, .slice none 0 0] (0, 0) _ rfl (set13 HL2.out) Tryz.underlying45 rfl (by kernel_rfl)) rfl ?_
  rw [HD.out.1, HD.out.2]
  exact ⟨none, 0, none, 0, none, 0, none, 0, none, 0, [], [], [], [], [], rfl, ⟨.inl ⟨rfl, rfl, rfl⟩, .inl ⟨rfl, rfl, rfl⟩, .inl ⟨rfl, rfl, rfl⟩, ⟨.inl ⟨rfl, rfl, rfl⟩, .inl ⟨rfl, rfl, rfl⟩⟩⟩, by simp, by simp, set13b HB2.out (by omega)⟩
 | true =>
  have HOK := hid hok
  have hep : 0 ≤ r.epoch ∧ r.epoch ≤ 1000000000 := by have h := (sndOK_of hok).2.1; exact ⟨by have := h.1; omega, h.2.1⟩
  have htf : totL (fun f : PF => f.name.length) r.fields ≤ 1048576 := (sndFits_of ht).1
  clear hok
  have p0 := cR _ _ 0 _ _ _ HK2.out
  have p1 := cR _ _ 1 _ _ _ HK2.out
  have p2 := cR _ _ 2 _ _ _ HK2.out
  have p3 := cR _ _ 3 _ _ _ HK2.out
  have p4 := cR _ _ 4 _ _ _ HK2.out
  have p5 := cR _ _ 5 _ _ _ HK2.out
  have p6 := cR _ _ 6 _ _ _ HK2.out
  have p7 := cR _ _ 7 _ _ _ HK2.out
  have p8 := cR _ _ 8 _ _ _ HK2.out
  have p9 := cR _ _ 9 _ _ _ HK2.out
  have p10 := cR _ _ 10 _ _ _ HK2.out
  have p11 := cR _ _ 11 _ _ _ HK2.out
  have p12 := cR _ _ 12 _ _ _ HK2.out
  simp only [gA, gZ, gU] at p0 p1 p2 p3 p4 p5 p6 p7 p8 p9 p10 p11 p12
  go_wp2_with fail
  refine (copySender_any r a0 a3 a1 a2 b2 c0 c3 c1 c2 d2 w2 (HR.out.later HB2.out) ht).mono ?_
  rintro e w3 ⟨a0x, c0x, a3x, c3x, a1x, c1x, a2x, c2x, b2x, d2x, fs, ts, os, bs, ds, rfl, oc, lc, nc, bl3⟩
  have HL3 := hid (boxSd HL2.out bl3)
  have hs3 := bl3.size
  have HM4 : Hid ((w3.alloc (.cells #[.slice a0x r.fields.length c0x, .int .i64 r.epoch, .int .i64 r.base, .slice a3x r.tables.length c3x, .int .i64 r.pushed, .int .i64 r.out.epoch, .int .i64 r.out.next, .int .i64 r.out.now, .slice a1x r.out.wait.length c1x, .bool r.str.opened, .slice a2x r.str.fields.length c2x, .int .i64 r.str.next, .slice b2x r.str.dicts.length d2x] 45)).heap[w3.heap.size]? = some (.cells #[.slice a0x r.fields.length c0x, .int .i64 r.epoch, .int .i64 r.base, .slice a3x r.tables.length c3x, .int .i64 r.pushed, .int .i64 r.out.epoch, .int .i64 r.out.next, .int .i64 r.out.now, .slice a1x r.out.wait.length c1x, .bool r.str.opened, .slice a2x r.str.fields.length c2x, .int .i64 r.str.next, .slice b2x r.str.dicts.length d2x] 45 (0, 0))) := hid (heap_alloc_new w3 _)
  have hb4 := bN w3 (.cells #[.slice a0x r.fields.length c0x, .int .i64 r.epoch, .int .i64 r.base, .slice a3x r.tables.length c3x, .int .i64 r.pushed, .int .i64 r.out.epoch, .int .i64 r.out.next, .int .i64 r.out.now, .slice a1x r.out.wait.length c1x, .bool r.str.opened, .slice a2x r.str.fields.length c2x, .int .i64 r.str.next, .slice b2x r.str.dicts.length d2x] 45)
  have HL4 := hid (boxSd HL3.out hb4)
  have HB4 := hid (bC HB2.out (bC bl3 hb4))
  have HS4 : Hid ((w3.alloc (.cells #[.slice a0x r.fields.length c0x, .int .i64 r.epoch, .int .i64 r.base, .slice a3x r.tables.length c3x, .int .i64 r.pushed, .int .i64 r.out.epoch, .int .i64 r.out.next, .int .i64 r.out.now, .slice a1x r.out.wait.length c1x, .bool r.str.opened, .slice a2x r.str.fields.length c2x, .int .i64 r.str.next, .slice b2x r.str.dicts.length d2x] 45)).heap.size = w3.heap.size + 1) := hid (by simp)
  have HC4 := hid (oc.later4 hb4)
  have HLT := hid oc.lt4
  have HLC := hid lc
  have HNC := hid nc
  clear p0 p1 p2 p3 p4 p5 p6 p7 p8 p9 p10 p11 p12 oc lc nc bl3 hb4 HL3 HK2
  go_upto_region 4 with fail
  generalize (w3.alloc (.cells #[.slice a0x r.fields.length c0x, .int .i64 r.epoch, .int .i64 r.base, .slice a3x r.tables.length c3x, .int .i64 r.pushed, .int .i64 r.out.epoch, .int .i64 r.out.next, .int .i64 r.out.now, .slice a1x r.out.wait.length c1x, .bool r.str.opened, .slice a2x r.str.fields.length c2x, .int .i64 r.str.next, .slice b2x r.str.dicts.length d2x] 45)) = W4 at *
  by_cases he : r.epoch = 1000000000
  ·have HD := hid (cs_end HOK.out he)
   have HNE := hid (nextEpoch_end r a0x a3x a1x a2x b2x c0x c3x c1x c2x d2x w3.heap.size W4 HM4.out he)
   clear he
   go_wp2_with fail
   refine HNE.out.mono ?_
   rintro e w5 ⟨rfl, rfl⟩
   have u0 := cR _ _ 0 _ _ _ HM4.out
   have u1 := cR _ _ 1 _ _ _ HM4.out
   have u2 := cR _ _ 2 _ _ _ HM4.out
   have u3 := cR _ _ 3 _ _ _ HM4.out
   have u4 := cR _ _ 4 _ _ _ HM4.out
   have u5 := cR _ _ 5 _ _ _ HM4.out
   have u6 := cR _ _ 6 _ _ _ HM4.out
   have u7 := cR _ _ 7 _ _ _ HM4.out
   have u8 := cR _ _ 8 _ _ _ HM4.out
   have u9 := cR _ _ 9 _ _ _ HM4.out
   have u10 := cR _ _ 10 _ _ _ HM4.out
   have u11 := cR _ _ 11 _ _ _ HM4.out
   have u12 := cR _ _ 12 _ _ _ HM4.out
   simp only [gA, gZ, gU] at u0 u1 u2 u3 u4 u5 u6 u7 u8 u9 u10 u11 u12
   have q0 := cR _ _ 0 _ _ _ HL4.out
   have zq0 := fR _ _ 0 _ _ HL4.out
   have q1 := cR _ _ 1 _ _ _ HL4.out
   have zq1 := fR _ _ 1 _ _ HL4.out
   have q2 := cR _ _ 2 _ _ _ HL4.out
   have zq2 := fR _ _ 2 _ _ HL4.out
   have q3 := cR _ _ 3 _ _ _ HL4.out
   have zq3 := fR _ _ 3 _ _ HL4.out
   have q4 := cR _ _ 4 _ _ _ HL4.out
   have zq4 := fR _ _ 4 _ _ HL4.out
   have q5 := cR _ _ 5 _ _ _ HL4.out
   have zq5 := fR _ _ 5 _ _ HL4.out
   have q6 := cR _ _ 6 _ _ _ HL4.out
   have zq6 := fR _ _ 6 _ _ HL4.out
   have q7 := cR _ _ 7 _ _ _ HL4.out
   have zq7 := fR _ _ 7 _ _ HL4.out
   have q8 := cR _ _ 8 _ _ _ HL4.out
   have zq8 := fR _ _ 8 _ _ HL4.out
   have q9 := cR _ _ 9 _ _ _ HL4.out
   have zq9 := fR _ _ 9 _ _ HL4.out
   have q10 := cR _ _ 10 _ _ _ HL4.out
   have zq10 := fR _ _ 10 _ _ HL4.out
   have q11 := cR _ _ 11 _ _ _ HL4.out
   have zq11 := fR _ _ 11 _ _ HL4.out
   have q12 := cR _ _ 12 _ _ _ HL4.out
   have zq12 := fR _ _ 12 _ _ HL4.out
   simp only [gA, gZ, gU] at q0 q1 q2 q3 q4 q5 q6 q7 q8 q9 q10 q11 q12
   go_wp2
   refine bodyPost_ret (results_cell_row_tmpD rfl _ _ (w.heap.size + 1) 45 #[.slice a0x r.fields.length c0x, .int .i64 r.epoch, .int .i64 r.base, .slice a3x r.tables.length c3x, .int .i64 r.pushed, .int .i64 r.out.epoch, .int .i64 r.out.next, .int .i64 r.out.now, .slice a1x r.out.wait.length c1x, .bool r.str.opened, .slice a2x r.str.fields.length c2x, .int .i64 r.str.next, .slice b2x r.str.dicts.length d2x] (0, 0) _ rfl (set13 HL4.out) Tryz.underlying45 rfl (by kernel_rfl)) rfl ?_
   rw [HD.out.1, HD.out.2]
   refine ⟨a0x, c0x, a3x, c3x, a1x, c1x, a2x, c2x, b2x, d2x, fs, ts, os, bs, ds, rfl, HC4.out.kept4 (fun x hx => set13o (by have := HLC.out x hx; omega)), fun x hx => by have := HLC.out x hx; omega, HNC.out, set13b HB4.out (by omega)⟩
  ·have HD := hid (cs_yes HOK.out he)
   have hs4 := HS4.out
   have HX1 := hid (set13E (y1 := .int .i64 (r.epoch + 1)) HM4.out)
   have HC5 := hid (HC4.out.kept4 (w' := (W4.setCell ⟨w3.heap.size, 1, none⟩ (.int .i64 (r.epoch + 1)))) (fun x hx => set13Eo (g := w3.heap.size) (y1 := .int .i64 (r.epoch + 1)) (by have := HLT.out x hx; omega)))
   have HB5 := hid (set13Eb (g := w3.heap.size) (y1 := .int .i64 (r.epoch + 1)) HB4.out (by omega))
   have HL5 := hid ((set13Eo (g := w3.heap.size) (k := w.heap.size + 1) (y1 := .int .i64 (r.epoch + 1)) (by omega)).trans HL4.out)
   have hs5 : (W4.setCell ⟨w3.heap.size, 1, none⟩ (.int .i64 (r.epoch + 1))).heap.size = w3.heap.size + 1 := by simp; omega
   obtain ⟨S, hS⟩ : ∃ S : PStr, S = startS r.fields r.base := ⟨_, rfl⟩
   obtain ⟨H, hH⟩ : ∃ H : List Nat, H = startB r.fields r.base := ⟨_, rfl⟩
   obtain ⟨O, hO⟩ : ∃ O : PO, O = pushO ⟨r.epoch + 1, 0, 0, []⟩ H := ⟨_, rfl⟩
   have HBG := hid (begin_any ⟨r.fields, r.epoch + 1, r.base, r.tables, r.pushed, r.out, r.str⟩ a0x a3x a1x a2x b2x c0x c3x c1x c2x d2x w3.heap.size (W4.setCell ⟨w3.heap.size, 1, none⟩ (.int .i64 (r.epoch + 1))) HX1.out HC5.out.f.rd htf S hS H hH (by rw [hH]; exact Nat.le_trans (startB_len r.fields r.base) (by decide)) (by rw [hH]; exact startB_lt r.fields r.base HNB.out) O hO)
   have HPE : Hid (bgR r.fields (r.epoch + 1) r.base r.tables = ⟨r.fields, r.epoch + 1, r.base, r.tables, 0, O, S⟩) := hid (by rw [hO, hS, hH]; rfl)
   clear hS hH hO
   obtain ⟨W5, hW5⟩ : ∃ W5, W5 = (W4.setCell ⟨w3.heap.size, 1, none⟩ (.int .i64 (r.epoch + 1))) := ⟨_, rfl⟩
   rw [← hW5] at HX1 HC5 HB5 HL5 hs5 HBG
   have HNE := hid (nextEpoch_yes r a0x a3x a1x a2x b2x c0x c3x c1x c2x d2x w3.heap.size W4 W5 hW5 HM4.out he hep (fun w' => ∃ a1y c1y a2y c2y b2y d2y osy bsy dsy, w'.heap[w3.heap.size]? = some (.cells #[.slice a0x r.fields.length c0x, .int .i64 (r.epoch + 1), .int .i64 r.base, .slice a3x r.tables.length c3x, .int .i64 0, .int .i64 O.epoch, .int .i64 O.next, .int .i64 O.now, .slice a1y O.wait.length c1y, .bool S.opened, .slice a2y S.fields.length c2y, .int .i64 S.next, .slice b2y S.dicts.length d2y] 45 (0, 0)) ∧ OwnSl cSnt 141 w' O.wait (.slice a1y O.wait.length c1y) osy ∧ OwnStr w' S a2y c2y b2y d2y bsy dsy ∧ (∀ x ∈ osy ++ (bsy ++ dsy), W5.heap.size ≤ x) ∧ (osy ++ (bsy ++ dsy)).Nodup ∧ totL wN O.wait ≤ 1048576 ∧ Only [w3.heap.size] W5 w') (HBG.out.mono (fun e w' h => by
    obtain ⟨a1y, c1y, a2y, c2y, b2y, d2y, osy, bsy, dsy, h0, h1⟩ := h
    exact ⟨h0, a1y, c1y, a2y, c2y, b2y, d2y, osy, bsy, dsy, h1⟩)))
   clear he hW5 HBG
   go_wp2_with fail
   refine HNE.out.mono ?_
   rintro e w6 ⟨rfl, a1y, c1y, a2y, c2y, b2y, d2y, osy, bsy, dsy, hbx, oo, oS, lx, nx, -, on6⟩
   have HBX := hid hbx
   have HOO := hid oo
   have HOS := hid oS
   have HLX := hid lx
   have HNX := hid nx
   have HL6 := hid ((on6.block (w.heap.size + 1) (Array.getElem?_eq_some_iff.1 HL5.out).1 (by simp; omega)).trans HL5.out)
   have kx : ∀ x ∈ ((fs ++ ts) ++ (os ++ (bs ++ ds))), w6.heap[x]? = W5.heap[x]? := fun x hx => on6.block x (HC5.out.lt4 x hx) (by simp; have := HLT.out x hx; omega)
   have HF6 := hid (HC5.out.f.kept (fun x hx => kx x (List.mem_append_left _ (List.mem_append_left _ hx))))
   have HT6 := hid (HC5.out.t.kept (fun x hx => kx x (List.mem_append_left _ (List.mem_append_right _ hx))))
   have HB6 := hid (Only.chain HB5.out on6 (fun x hx => by simp at hx; omega) (Nat.le_refl _))
   clear hbx oo oS lx nx on6 kx HNE
   have u0 := cR _ _ 0 _ _ _ HBX.out
   have u1 := cR _ _ 1 _ _ _ HBX.out
   have u2 := cR _ _ 2 _ _ _ HBX.out
   have u3 := cR _ _ 3 _ _ _ HBX.out
   have u4 := cR _ _ 4 _ _ _ HBX.out
   have u5 := cR _ _ 5 _ _ _ HBX.out
   have u6 := cR _ _ 6 _ _ _ HBX.out
   have u7 := cR _ _ 7 _ _ _ HBX.out
   have u8 := cR _ _ 8 _ _ _ HBX.out
   have u9 := cR _ _ 9 _ _ _ HBX.out
   have u10 := cR _ _ 10 _ _ _ HBX.out
   have u11 := cR _ _ 11 _ _ _ HBX.out
   have u12 := cR _ _ 12 _ _ _ HBX.out
   simp only [gA, gZ, gU] at u0 u1 u2 u3 u4 u5 u6 u7 u8 u9 u10 u11 u12
   have q0 := cR _ _ 0 _ _ _ HL6.out
   have zq0 := fR _ _ 0 _ _ HL6.out
   have q1 := cR _ _ 1 _ _ _ HL6.out
   have zq1 := fR _ _ 1 _ _ HL6.out
   have q2 := cR _ _ 2 _ _ _ HL6.out
   have zq2 := fR _ _ 2 _ _ HL6.out
   have q3 := cR _ _ 3 _ _ _ HL6.out
   have zq3 := fR _ _ 3 _ _ HL6.out
   have q4 := cR _ _ 4 _ _ _ HL6.out
   have zq4 := fR _ _ 4 _ _ HL6.out
   have q5 := cR _ _ 5 _ _ _ HL6.out
   have zq5 := fR _ _ 5 _ _ HL6.out
   have q6 := cR _ _ 6 _ _ _ HL6.out
   have zq6 := fR _ _ 6 _ _ HL6.out
   have q7 := cR _ _ 7 _ _ _ HL6.out
   have zq7 := fR _ _ 7 _ _ HL6.out
   have q8 := cR _ _ 8 _ _ _ HL6.out
   have zq8 := fR _ _ 8 _ _ HL6.out
   have q9 := cR _ _ 9 _ _ _ HL6.out
   have zq9 := fR _ _ 9 _ _ HL6.out
   have q10 := cR _ _ 10 _ _ _ HL6.out
   have zq10 := fR _ _ 10 _ _ HL6.out
   have q11 := cR _ _ 11 _ _ _ HL6.out
   have zq11 := fR _ _ 11 _ _ HL6.out
   have q12 := cR _ _ 12 _ _ _ HL6.out
   have zq12 := fR _ _ 12 _ _ HL6.out
   simp only [gA, gZ, gU] at q0 q1 q2 q3 q4 q5 q6 q7 q8 q9 q10 q11 q12
   go_wp2
   refine bodyPost_ret (results_cell_row_tmpD rfl _ _ (w.heap.size + 1) 45 #[.slice a0x r.fields.length c0x, .int .i64 (r.epoch + 1), .int .i64 r.base, .slice a3x r.tables.length c3x, .int .i64 0, .int .i64 O.epoch, .int .i64 O.next, .int .i64 O.now, .slice a1y O.wait.length c1y, .bool S.opened, .slice a2y S.fields.length c2y, .int .i64 S.next, .slice b2y S.dicts.length d2y] (0, 0) _ rfl (set13 HL6.out) Tryz.underlying45 rfl (by kernel_rfl)) rfl ?_
   rw [HD.out.1, HD.out.2, HPE.out]
   have mf : ∀ x ∈ fs, w2.heap.size ≤ x ∧ x < w3.heap.size := fun x hx => ⟨HLC.out x (List.mem_append_left _ (List.mem_append_left _ hx)), HLT.out x (List.mem_append_left _ (List.mem_append_left _ hx))⟩
   have mt : ∀ x ∈ ts, w2.heap.size ≤ x ∧ x < w3.heap.size := fun x hx => ⟨HLC.out x (List.mem_append_left _ (List.mem_append_right _ hx)), HLT.out x (List.mem_append_left _ (List.mem_append_right _ hx))⟩
   refine ⟨a0x, c0x, a3x, c3x, a1y, c1y, a2y, c2y, b2y, d2y, fs, ts, osy, bsy, dsy, rfl, ⟨HF6.out.kept (fun x hx => set13o (by have := mf x hx; omega)), HT6.out.kept (fun x hx => set13o (by have := mt x hx; omega)), HOO.out.kept (fun x hx => set13o (by have := HLX.out x (List.mem_append_left _ hx); omega)), keptSt HOS.out (fun x hx => set13o (by have := HLX.out x (List.mem_append_right _ hx); omega))⟩, ?_, ?_, set13b HB6.out (by omega)⟩
   ·intro x hx
    rcases List.mem_append.1 hx with h | h
    ·rcases List.mem_append.1 h with h | h
     ·have := mf x h; omega
     ·have := mt x h; omega
    ·have := HLX.out x h; omega
   ·refine List.nodup_append.2 ⟨(List.nodup_append.1 HNC.out).1, HNX.out, fun x hx y hy e => ?_⟩
    have := HLX.out y hy
    rcases List.mem_append.1 hx with h | h
    ·have := mf x h; omega
    ·have := mt x h; omega
end Go.Proofs.YtfaehioeepolhabGreat
