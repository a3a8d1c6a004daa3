import Derived.Test.YtfaehioeepolhaaGreatJOpenSender48
import Derived.Test.YtfaehioeepolhaaGreatJOpenSender31
import Derived.Test.YtfaehioeepolhaaGreatJOpenSender33
import Derived.Test.YtfaehioeepolhaaGreatJOpenSender36
import Derived.Test.YtfaehioeepolhaaGreatJOpenSender19
namespace Go.Proofs.YtfaehioeepolhaaGreat
open Go.RowKit
theorem ownF9 {w w' : World} {fs : List PF} {v : Value} {bs : List Nat} (h : OwnSl cField 98 w fs v bs) (hb : Below w.heap.size w w') : OwnSl cField 98 w' fs v bs := h.kept (fun b hm => hb.block b (h.lt b hm))
set_option maxRecDepth 100000 in
set_option maxHeartbeats 8000000 in
theorem implOpn_any (a : Option Addr) (c : Nat) (fs : List PF) (w : World) (hr : RdSl cField w fs (.slice a fs.length c)) (ht : totL (fun f : PF => f.name.length) fs ≤ 1048576) :
    Calls Tryz.prog 21 #[.slice a fs.length c] w fun e w' => ∃ a0x c0x a3x c3x a1x c1x a2x c2x b2x d2x fsx tsx osx bsx dsx, e = .returned (.tuple #[.agg #[.slice a0x (opR fs).fields.length c0x, .int .i64 (opR fs).epoch, .int .i64 (opR fs).base, .slice a3x (opR fs).tables.length c3x, .int .i64 (opR fs).pushed, .int .i64 (opR fs).out.epoch, .int .i64 (opR fs).out.next, .int .i64 (opR fs).out.now, .slice a1x (opR fs).out.wait.length c1x, .bool (opR fs).str.opened, .slice a2x (opR fs).str.fields.length c2x, .int .i64 (opR fs).str.next, .slice b2x (opR fs).str.dicts.length d2x], .int .i64 (opK fs)]) ∧ OwnSnd w' (opR fs) a0x c0x a3x c3x a1x c1x a2x c2x b2x d2x fsx tsx osx bsx dsx ∧ (∀ y ∈ ((fsx ++ tsx) ++ (osx ++ (bsx ++ dsx))), w.heap.size ≤ y) ∧ ((fsx ++ tsx) ++ (osx ++ (bsx ++ dsx))).Nodup ∧ Below w.heap.size w w' := by
  have HR := hid hr
  have HNB : Hid (∀ f ∈ fs, ∀ x ∈ f.name, x < 256) := hid (fun f hf => by
    obtain ⟨k, hk, rfl⟩ := List.getElem_of_mem hf
    obtain ⟨b, off, x0, x1, x2, -, hes, -, -, -⟩ := hr.at3 rfl hk
    obtain ⟨v, -, h1, -⟩ := cField_rd hes
    exact rdSl_ok h1)
  clear hr
  have HL0 : Hid ((w.alloc (.cells #[.slice none 0 0, .int .i64 0, .int .i64 0, .slice none 0 0, .int .i64 0, .int .i64 0, .int .i64 0, .int .i64 0, .slice none 0 0, .bool false, .slice none 0 0, .int .i64 0, .slice none 0 0] 58)).heap[w.heap.size]? = some (.cells #[.slice none 0 0, .int .i64 0, .int .i64 0, .slice none 0 0, .int .i64 0, .int .i64 0, .int .i64 0, .int .i64 0, .slice none 0 0, .bool false, .slice none 0 0, .int .i64 0, .slice none 0 0] 58 (0, 0))) := hid (heap_alloc_new w _)
  have HB0 := hid (below_new1 w (.cells #[.slice none 0 0, .int .i64 0, .int .i64 0, .slice none 0 0, .int .i64 0, .int .i64 0, .int .i64 0, .int .i64 0, .slice none 0 0, .bool false, .slice none 0 0, .int .i64 0, .slice none 0 0] 58))
  have HSZ : Hid ((w.alloc (.cells #[.slice none 0 0, .int .i64 0, .int .i64 0, .slice none 0 0, .int .i64 0, .int .i64 0, .int .i64 0, .int .i64 0, .slice none 0 0, .bool false, .slice none 0 0, .int .i64 0, .slice none 0 0] 58)).heap.size = w.heap.size + 1) := hid (by simp)
  go_enter Tryz.func21, Tryz.ntmps21
  go_upto_region 1 with fail
  generalize (w.alloc (.cells #[.slice none 0 0, .int .i64 0, .int .i64 0, .slice none 0 0, .int .i64 0, .int .i64 0, .int .i64 0, .int .i64 0, .slice none 0 0, .bool false, .slice none 0 0, .int .i64 0, .slice none 0 0] 58)) = W0 at *
  go_wp2_with fail
  refine (implFields_any a c fs W0 (HR.out.later HB0.out)).mono ?_
  rintro e w2 ⟨rfl, bl2⟩
  have HL2 := hid (boxSd HL0.out bl2)
  have HB2 := hid (below_chain HB0.out bl2)
  have hs2 := bl2.size
  have hsz := HSZ.out
  clear bl2
  cases hok : fieldsOK fs with
  | false =>
    have HD := hid (op_no hok)
    clear hok
    have q0 := cell_of_row _ _ 0 _ _ _ HL2.out
    have zq0 := frozen_of_row _ _ 0 _ _ HL2.out
    have q1 := cell_of_row _ _ 1 _ _ _ HL2.out
    have zq1 := frozen_of_row _ _ 1 _ _ HL2.out
    have q2 := cell_of_row _ _ 2 _ _ _ HL2.out
    have zq2 := frozen_of_row _ _ 2 _ _ HL2.out
    have q3 := cell_of_row _ _ 3 _ _ _ HL2.out
    have zq3 := frozen_of_row _ _ 3 _ _ HL2.out
    have q4 := cell_of_row _ _ 4 _ _ _ HL2.out
    have zq4 := frozen_of_row _ _ 4 _ _ HL2.out
    have q5 := cell_of_row _ _ 5 _ _ _ HL2.out
    have zq5 := frozen_of_row _ _ 5 _ _ HL2.out
    have q6 := cell_of_row _ _ 6 _ _ _ HL2.out
    have zq6 := frozen_of_row _ _ 6 _ _ HL2.out
    have q7 := cell_of_row _ _ 7 _ _ _ HL2.out
    have zq7 := frozen_of_row _ _ 7 _ _ HL2.out
    have q8 := cell_of_row _ _ 8 _ _ _ HL2.out
    have zq8 := frozen_of_row _ _ 8 _ _ HL2.out
    have q9 := cell_of_row _ _ 9 _ _ _ HL2.out
    have zq9 := frozen_of_row _ _ 9 _ _ HL2.out
    have q10 := cell_of_row _ _ 10 _ _ _ HL2.out
    have zq10 := frozen_of_row _ _ 10 _ _ HL2.out
    have q11 := cell_of_row _ _ 11 _ _ _ HL2.out
    have zq11 := frozen_of_row _ _ 11 _ _ HL2.out
    have q12 := cell_of_row _ _ 12 _ _ _ HL2.out
    have zq12 := frozen_of_row _ _ 12 _ _ HL2.out
    simp only [List.getElem?_toArray, List.getElem?_cons_zero, List.getElem?_cons_succ] at q0 q1 q2 q3 q4 q5 q6 q7 q8 q9 q10 q11 q12
    go_wp2
    refine bodyPost_ret (results_cell_row_tmpD rfl _ _ w.heap.size 58 #[.slice none 0 0, .int .i64 0, .int .i64 0, .slice none 0 0, .int .i64 0, .int .i64 0, .int .i64 0, .int .i64 0, .slice none 0 0, .bool false, .slice none 0 0, .int .i64 0, .slice none 0 0] (0, 0) _ rfl (set13 HL2.out) Tryz.underlying58 rfl (by kernel_rfl)) rfl ?_
    rw [HD.out.1, HD.out.2]
    exact ⟨none, 0, none, 0, none, 0, none, 0, none, 0, [], [], [], [], [], rfl, ⟨.inl ⟨rfl, rfl, rfl⟩, .inl ⟨rfl, rfl, rfl⟩, .inl ⟨rfl, rfl, rfl⟩, ⟨.inl ⟨rfl, rfl, rfl⟩, .inl ⟨rfl, rfl, rfl⟩⟩⟩, by simp, by simp, set13b HB2.out (Nat.le_refl _)⟩
  | true =>
    have HD := hid (op_yes hok)
    clear hok
    go_wp2_with fail
    refine (copyFields_any a c fs w2 (HR.out.later HB2.out) ht).mono ?_
    rintro e w3 ⟨v3, fsx, rfl, o3, l3, n3, bl3⟩
    obtain ⟨a0x, c0x, rfl, -⟩ := id o3.rd
    have HL3 := hid (boxSd HL2.out bl3)
    have HM4 : Hid ((w3.alloc (.cells #[.slice a0x fs.length c0x, .int .i64 1, .int .i64 0, .slice none 0 0, .int .i64 0, .int .i64 0, .int .i64 0, .int .i64 0, .slice none 0 0, .bool false, .slice none 0 0, .int .i64 0, .slice none 0 0] 58)).heap[w3.heap.size]? = some (.cells #[.slice a0x fs.length c0x, .int .i64 1, .int .i64 0, .slice none 0 0, .int .i64 0, .int .i64 0, .int .i64 0, .int .i64 0, .slice none 0 0, .bool false, .slice none 0 0, .int .i64 0, .slice none 0 0] 58 (0, 0))) := hid (heap_alloc_new w3 _)
    have hb4 := below_new1 w3 (.cells #[.slice a0x fs.length c0x, .int .i64 1, .int .i64 0, .slice none 0 0, .int .i64 0, .int .i64 0, .int .i64 0, .int .i64 0, .slice none 0 0, .bool false, .slice none 0 0, .int .i64 0, .slice none 0 0] 58)
    have HL4 := hid (boxSd HL3.out hb4)
    have HB4 := hid (below_chain HB2.out (below_chain bl3 hb4))
    have HO4 := hid (ownF9 o3 hb4)
    have HLF := hid l3
    have HNF := hid n3
    have HLT3 := hid o3.lt
    have hs3 := bl3.size
    have hs4 : (w3.alloc (.cells #[.slice a0x fs.length c0x, .int .i64 1, .int .i64 0, .slice none 0 0, .int .i64 0, .int .i64 0, .int .i64 0, .int .i64 0, .slice none 0 0, .bool false, .slice none 0 0, .int .i64 0, .slice none 0 0] 58)).heap.size = w3.heap.size + 1 := by simp
    have HS4 := hid hs4
    clear o3 l3 n3 bl3 hb4 HL3 hs4
    obtain ⟨S, hS⟩ : ∃ S : PStr, S = startS fs 0 := ⟨_, rfl⟩
    obtain ⟨H, hH⟩ : ∃ H : List Nat, H = startB fs 0 := ⟨_, rfl⟩
    obtain ⟨O, hO⟩ : ∃ O : PO, O = pushO ⟨1, 0, 0, []⟩ H := ⟨_, rfl⟩
    have HBG := hid (fun (w' : World) hk hr => begin_any ⟨fs, 1, 0, [], 0, ⟨0, 0, 0, []⟩, ⟨false, [], 0, []⟩⟩ a0x none none none none c0x 0 0 0 0 w3.heap.size w' hk hr ht S hS H hH (by rw [hH]; exact Nat.le_trans (startB_len fs 0) (by decide)) (by rw [hH]; exact startB_lt fs 0 HNB.out) O hO)
    have HPE : Hid (bgR fs 1 0 [] = ⟨fs, 1, 0, [], 0, O, S⟩) := hid (by rw [hO, hS, hH]; rfl)
    clear hS hH hO
    go_upto_region 4 with fail
    generalize (w3.alloc (.cells #[.slice a0x fs.length c0x, .int .i64 1, .int .i64 0, .slice none 0 0, .int .i64 0, .int .i64 0, .int .i64 0, .int .i64 0, .slice none 0 0, .bool false, .slice none 0 0, .int .i64 0, .slice none 0 0] 58)) = W4 at *
    go_wp2_with fail
    refine (HBG.out W4 HM4.out HO4.out.rd).mono ?_
    rintro e w5 ⟨a1x, c1x, a2x, c2x, b2x, d2x, osx, bsx, dsx, rfl, hbx, oo, os, lx, nx, hto, on5⟩
    have HBX := hid hbx
    have HOO := hid oo
    have HOS := hid os
    have HLX := hid lx
    have HNX := hid nx
    have HL5 := hid ((on5.block w.heap.size (Array.getElem?_eq_some_iff.1 HL4.out).1 (by simp; omega)).trans HL4.out)
    have HOF := hid (HO4.out.kept (w' := w5) (fun x hx => on5.block x (HO4.out.lt x hx) (by simp; have := HLT3.out x hx; omega)))
    have HB5 := hid (Only.chain HB4.out on5 (fun x hx => by simp at hx; omega) (Nat.le_refl _))
    clear hbx oo os lx nx on5 HBG
    have p0 := cell_of_row _ _ 0 _ _ _ HBX.out
    have p1 := cell_of_row _ _ 1 _ _ _ HBX.out
    have p2 := cell_of_row _ _ 2 _ _ _ HBX.out
    have p3 := cell_of_row _ _ 3 _ _ _ HBX.out
    have p4 := cell_of_row _ _ 4 _ _ _ HBX.out
    have p5 := cell_of_row _ _ 5 _ _ _ HBX.out
    have p6 := cell_of_row _ _ 6 _ _ _ HBX.out
    have p7 := cell_of_row _ _ 7 _ _ _ HBX.out
    have p8 := cell_of_row _ _ 8 _ _ _ HBX.out
    have p9 := cell_of_row _ _ 9 _ _ _ HBX.out
    have p10 := cell_of_row _ _ 10 _ _ _ HBX.out
    have p11 := cell_of_row _ _ 11 _ _ _ HBX.out
    have p12 := cell_of_row _ _ 12 _ _ _ HBX.out
    simp only [List.getElem?_toArray, List.getElem?_cons_zero, List.getElem?_cons_succ] at p0 p1 p2 p3 p4 p5 p6 p7 p8 p9 p10 p11 p12
    have q0 := cell_of_row _ _ 0 _ _ _ HL5.out
    have zq0 := frozen_of_row _ _ 0 _ _ HL5.out
    have q1 := cell_of_row _ _ 1 _ _ _ HL5.out
    have zq1 := frozen_of_row _ _ 1 _ _ HL5.out
    have q2 := cell_of_row _ _ 2 _ _ _ HL5.out
    have zq2 := frozen_of_row _ _ 2 _ _ HL5.out
    have q3 := cell_of_row _ _ 3 _ _ _ HL5.out
    have zq3 := frozen_of_row _ _ 3 _ _ HL5.out
    have q4 := cell_of_row _ _ 4 _ _ _ HL5.out
    have zq4 := frozen_of_row _ _ 4 _ _ HL5.out
    have q5 := cell_of_row _ _ 5 _ _ _ HL5.out
    have zq5 := frozen_of_row _ _ 5 _ _ HL5.out
    have q6 := cell_of_row _ _ 6 _ _ _ HL5.out
    have zq6 := frozen_of_row _ _ 6 _ _ HL5.out
    have q7 := cell_of_row _ _ 7 _ _ _ HL5.out
    have zq7 := frozen_of_row _ _ 7 _ _ HL5.out
    have q8 := cell_of_row _ _ 8 _ _ _ HL5.out
    have zq8 := frozen_of_row _ _ 8 _ _ HL5.out
    have q9 := cell_of_row _ _ 9 _ _ _ HL5.out
    have zq9 := frozen_of_row _ _ 9 _ _ HL5.out
    have q10 := cell_of_row _ _ 10 _ _ _ HL5.out
    have zq10 := frozen_of_row _ _ 10 _ _ HL5.out
    have q11 := cell_of_row _ _ 11 _ _ _ HL5.out
    have zq11 := frozen_of_row _ _ 11 _ _ HL5.out
    have q12 := cell_of_row _ _ 12 _ _ _ HL5.out
    have zq12 := frozen_of_row _ _ 12 _ _ HL5.out
    simp only [List.getElem?_toArray, List.getElem?_cons_zero, List.getElem?_cons_succ] at q0 q1 q2 q3 q4 q5 q6 q7 q8 q9 q10 q11 q12
    go_wp2
    refine bodyPost_ret (results_cell_row_tmpD rfl _ _ w.heap.size 58 #[.slice a0x fs.length c0x, .int .i64 1, .int .i64 0, .slice none 0 0, .int .i64 0, .int .i64 O.epoch, .int .i64 O.next, .int .i64 O.now, .slice a1x O.wait.length c1x, .bool S.opened, .slice a2x S.fields.length c2x, .int .i64 S.next, .slice b2x S.dicts.length d2x] (0, 0) _ rfl (set13 HL5.out) Tryz.underlying58 rfl (by kernel_rfl)) rfl ?_
    rw [HD.out.1, HD.out.2, HPE.out]
    have hs4' := HS4.out
    refine ⟨a0x, c0x, none, 0, a1x, c1x, a2x, c2x, b2x, d2x, fsx, [], osx, bsx, dsx, rfl, ⟨HOF.out.kept (fun x hx => set13o (by have := HLF.out x hx; omega)), .inl ⟨rfl, rfl, rfl⟩, HOO.out.kept (fun x hx => set13o (by have := HLX.out x (List.mem_append_left _ hx); omega)), keptSt HOS.out (fun x hx => set13o (by have := HLX.out x (List.mem_append_right _ hx); omega))⟩, ?_, ?_, set13b HB5.out (Nat.le_refl _)⟩
    · intro x hx
      rcases List.mem_append.1 hx with h | h
      · rw [List.append_nil] at h
        have := HLF.out x h; omega
      · have := HLX.out x h; omega
    · rw [List.append_nil]
      refine List.nodup_append.2 ⟨HNF.out, HNX.out, fun x hx y hy e => ?_⟩
      have := HLT3.out x hx
      have := HLX.out y hy
      omega
end Go.Proofs.YtfaehioeepolhaaGreat
