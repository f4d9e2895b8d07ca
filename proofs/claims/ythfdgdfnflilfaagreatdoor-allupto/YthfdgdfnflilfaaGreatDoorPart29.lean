/- Part 29: Side1. -/
import Derived.Test.YthfdgdfnflilfaaGreatDoorPart22
namespace Go.Proofs.YthfdgdfnflilfaaGreatDoor
open Go.RowKit Go.Conc
set_option maxHeartbeats 1000000 in
theorem rlook_out {L:Lay} {w:World} {N:Net} {R:Rc} (h:RaceAt L w N R) (k:Int) (hk:inB k N.workers.length=false) :
  Calls Tryz.prog 62 #[.pointer (some ⟨L.p,0,none⟩),.int .i64 k] w fun e w'=>e=.returned (.tuple #[.agg #[.int .i64 0,.int .i64 0,.int .i64 0,.int .i64 0,.int .i64 0,.int .i64 0,.int .i64 0],.int .i64 2])∧Below w.heap.size w w':=by
 have HH:Hid (∀ wx,Below w.heap.size w wx→Calls Tryz.prog 47 #[.pointer (some ⟨L.p,0,none⟩),.int .i64 k] wx fun e w'=>e=.returned (.bool false)∧w'=wx):=fun wx hx=>by
  have:=hasWorker_calls (h.below hx) k;rw [hk] at this;exact this
 have HB:Hid (∀ o,Below w.heap.size w (w.alloc o)):=fun o=>(Below.refl _ _).alloc (Nat.le_refl _) o
 clear h
 go_enter Tryz.func62,Tryz.ntmps62
 go_wp2_with fail
 refine (unhide HH _ (HB.out _)).mono ?_
 rintro e w1 ⟨rfl,rfl⟩
 go_wp2
 refine bodyPost_ret (v:=.tuple #[.agg #[.int .i64 0,.int .i64 0,.int .i64 0,.int .i64 0,.int .i64 0,.int .i64 0,.int .i64 0],.int .i64 2]) ?_ rfl ⟨rfl,?_⟩
 ·simp [results,Tryz.results62,go_sem]
 ·exact HB.out _
theorem has_look_out {A:Nat→Prop} {p:Nat} {N:Net} {R:Rc} {w:World} (h:Has A p N R w) (k:Int) (hk:inB k N.workers.length=false) :
  Calls Tryz.prog 62 #[.pointer (some ⟨p,0,none⟩),.int .i64 k] w fun e w'=>e=.returned (.tuple #[.agg #[.int .i64 0,.int .i64 0,.int .i64 0,.int .i64 0,.int .i64 0,.int .i64 0,.int .i64 0],.int .i64 2])∧Below w.heap.size w w':=by
 obtain ⟨L,rfl,h2,h3⟩:=h.ex
 exact rlook_out h2 k hk
theorem has_history_out {A:Nat→Prop} {p:Nat} {N:Net} {R:Rc} {w:World} (h:Has A p N R w) (k:Int) (hk:inB k N.streams.length=false) :
  Calls Tryz.prog 11 #[.pointer (some ⟨p,0,none⟩),.int .i64 k] w fun e w'=>e=.returned (.tuple #[.slice none 0 0,.int .i64 2])∧w'=w:=by
 obtain ⟨L,rfl,h2,h3⟩:=h.ex
 exact rhistory_out h2 k hk
theorem has_room_out {A:Nat→Prop} {p:Nat} {N:Net} {R:Rc} {w:World} (h:Has A p N R w) (k:Int) (hk:inB k N.streams.length=false) :
  Calls Tryz.prog 66 #[.pointer (some ⟨p,0,none⟩),.int .i64 k] w fun e w'=>e=.returned (.tuple #[.int .i64 0,.int .i64 0,.int .i64 2])∧w'=w:=by
 obtain ⟨L,rfl,h2,h3⟩:=h.ex
 exact rroom_out h2 k hk
theorem has_room {A:Nat→Prop} {p:Nat} {N:Net} {R:Rc} {w:World} (h:Has A p N R w) (s:Nat) (hs:s<N.streams.length) :
  Calls Tryz.prog 66 #[.pointer (some ⟨p,0,none⟩),.int .i64 s] w fun e w'=>e=.returned (.tuple #[.int .i64 (if heldB N s then ((R.s s).room:Int) else 0),.int .i64 (if heldB N s then (((R.s s).words.length-(R.s s).read:Nat):Int) else 0),.int .i64 0])∧Below w.heap.size w w':=by
 obtain ⟨L,rfl,h2,h3⟩:=h.ex
 have:=rroom_calls h2 s hs
 rw [h2.ch_iff hs] at this
 exact this
end Go.Proofs.YthfdgdfnflilfaaGreatDoor
